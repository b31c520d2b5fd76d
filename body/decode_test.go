package body_test

import (
	"fmt"
	"iter"
	"regexp"
	"strconv"
	"strings"
	"testing"

	"larder/api"
	"larder/body"
	"larder/field"
)

// decoded is what Decode answers.
type decoded struct {
	body string
	n    int
	err  api.Errno
}

func (d decoded) String() string { return fmt.Sprintf("%.60q %d, error %d", d.body, d.n, d.err) }

func decode(s string) decoded {
	var d decoded
	d.body, d.n, d.err = body.Decode(s)
	return d
}

func checkDecode(t *testing.T, s string, want decoded) {
	t.Helper()
	if got := decode(s); got != want {
		t.Errorf("Decode(%.60q, %d bytes): %v, not %v", s, len(s), got, want)
	}
}

func checkNoBody(t *testing.T, want api.Errno, texts ...string) {
	t.Helper()
	for _, s := range texts {
		checkDecode(t, s, decoded{err: want})
	}
}

var (
	numberForm = regexp.MustCompile("\\A([0-9a-fA-F]{1,4})(;[\t -~]{0,50})?\r\n")
	numberHead = regexp.MustCompile("\\A([0-9a-fA-F]{1,4}(;[\t -~]{0,50})?\r?)?\\z")
)

// byForm answers what Decode should, by other means than the program: it sees all of the text at once.
func byForm(s string) decoded {
	text := ""
	rest := s
	for {
		found := numberForm.FindStringSubmatch(rest)
		if found == nil && numberHead.MatchString(rest) {
			return decoded{err: api.ErrShort}
		} else if found == nil {
			return decoded{err: api.ErrSyntax}
		}
		number, _ := strconv.ParseUint(found[1], 16, 64)
		n := int(number)
		rest = rest[len(found[0]):]
		if len(text)+n > 5000 {
			return decoded{err: api.ErrLarge}
		}
		if n == 0 {
			_, taken, err := field.Parse(rest)
			if err != api.OK {
				return decoded{err: err}
			}
			return decoded{text, len(s) - len(rest) + taken, api.OK}
		}
		if len(rest) < n {
			return decoded{err: api.ErrShort}
		}
		text += rest[:n]
		rest = rest[n:]
		if len(rest) < 2 && strings.HasPrefix("\r\n", rest) {
			return decoded{err: api.ErrShort}
		} else if !strings.HasPrefix(rest, "\r\n") {
			return decoded{err: api.ErrSyntax}
		}
		rest = rest[2:]
	}
}

// P15.

func TestDecode(t *testing.T) {
	for s, want := range map[string]decoded{
		"5;x=y\r\nhello\r\n0\r\na:b\r\n\r\nmore":         {"hello", 24, api.OK},
		"0\r\n\r\n":                                      {"", 5, api.OK},
		"0\r\n\r\n0\r\n\r\n":                             {"", 5, api.OK},
		"0000\r\n\r\n\x00":                               {"", 8, api.OK},
		"0;\r\n\r\n":                                     {"", 6, api.OK},
		"00;0\r\nA: b\r\nc:d\r\n\r\n\r\n":                {"", 19, api.OK},
		"3\r\nhel\r\n2\r\nlo\r\n0\r\n\r\n":               {"hello", 20, api.OK},
		"0001;a;b \t\"~\r\n\n\r\n001\r\n\r\r\n0\r\n\r\n": {"\n\r", 30, api.OK},
		"2\r\n\r\n\r\n0\r\n\r\n":                         {"\r\n", 12, api.OK},
		"7\r\n0\r\n\r\n0\r\r\n0\r\n\r\n":                 {"0\r\n\r\n0\r", 17, api.OK},
		"3\r\n\x00\xff;\r\n0\r\n\r\n\xff":                {"\x00\xff;", 13, api.OK},
	} {
		checkDecode(t, s, want)
		if form := byForm(s); form != want {
			t.Errorf("byForm(%q): %v, not %v", s, form, want)
		}
	}
}

func TestDecodeNumbers(t *testing.T) {
	for n := range 5001 {
		if n > 300 && n < 4990 && n%61 > 0 {
			continue
		}
		for _, number := range []string{strconv.FormatInt(int64(n), 16), strings.ToUpper(strconv.FormatInt(int64(n), 16))} {
			for ; len(number) <= 4; number = "0" + number {
				s := number + "\r\n" + long(n) + "\r\n0\r\n\r\n"
				if n == 0 {
					s = number + "\r\n\r\n"
				}
				checkDecode(t, s, decoded{long(n), len(s), api.OK})
			}
			checkNoBody(t, api.ErrSyntax, number, number+"\r\n"+long(n)+"\r\n0\r\n\r\n")
		}
	}
	for n := 5001; n < 1<<16; n++ {
		number := strconv.FormatInt(int64(n), 16)
		checkNoBody(t, api.ErrLarge, number+"\r\n", number+";a\r\n\x00")
		checkNoBody(t, api.ErrShort, number, number+"\r", number+";a")
	}
}

func TestDecodeWrongNumbers(t *testing.T) {
	checkNoBody(t, api.ErrSyntax,
		"\r", "\r\n", "\n", ";", ";a\r\n", " ", " 1", "1 ", "1 \r\n", "\t1", "1\t", "-1", "+1", "-0\r\n\r\n", "0x1", "1h", "g", "G", "/", ":", "@", "`", "x",
		"00000", "00001\r\n", "12345", "FFFFF", "1\n", "1\na", "1\r\r\n", "1\r ", "1\ra", "1\r;", "1\x00", "1,", "1=", "\xff", "\u0661", "1\u0661",
		"0\n", "0\n\n", "0\r\r\n", "1\r\na\r\n\r\n", "1\r\na\r\n \r\n", "1\r\na\r\n;\r\n", "1\r\na\r\n-1\r\n",
	)
}

func TestDecodeOfEachByteOfALine(t *testing.T) {
	for i := range 256 {
		c := string([]byte{byte(i)})
		hex := strings.Contains("0123456789abcdefABCDEF", c)
		plain := i == 9 || i >= 32 && i <= 126
		for _, x := range []struct {
			head  string
			right bool
		}{
			{"", hex},
			{"0", hex || c == ";" || c == "\r"},
			{"000", hex || c == ";" || c == "\r"},
			{"0001", c == ";" || c == "\r"},
			{"1;", plain || c == "\r"},
			{"1;a", plain || c == "\r"},
			{"1;" + long(49), plain || c == "\r"},
			{"1;" + long(50), c == "\r"},
			{"1\r", c == "\n"},
			{"1;a\r", c == "\n"},
			{"1\r\n", true},
			{"1\r\na", c == "\r"},
			{"1\r\na\r", c == "\n"},
			{"1\r\na\r\n", hex},
		} {
			want := api.ErrSyntax
			if x.right {
				want = api.ErrShort
			}
			checkNoBody(t, want, x.head+c)
		}
	}
}

func TestDecodeExtra(t *testing.T) {
	for n := range 51 {
		s := "1;" + long(n) + "\r\na\r\n0;" + long(n) + "\r\n\r\n"
		checkDecode(t, s, decoded{"a", len(s), api.OK})
	}
	checkNoBody(t, api.ErrSyntax, "1;"+long(51), "1;"+long(51)+"\r\na\r\n0\r\n\r\n", "1\r\na\r\n0;"+long(51)+"\r\n\r\n", "0;"+long(100000), "0;"+long(50)+"\n")
	checkNoBody(t, api.ErrShort, "1;"+long(50), "1;"+long(50)+"\r", "1;"+long(50)+"\r\n")
	// A chunk whose line can't be read is not too large.
	checkNoBody(t, api.ErrSyntax, "FFFF;"+long(51)+"\r\n", "FFFF;\x00\r\n", "FFFF\n", "FFFF\ra")
}

func TestDecodeChunkEnds(t *testing.T) {
	checkNoBody(t, api.ErrShort, "1\r\n", "1\r\na", "1\r\na\r", "1\r\na\r\n", "2\r\na", "2\r\n\r\n", "2\r\n\r\n\r", "2\r\na\r", "5\r\nhel")
	checkNoBody(t, api.ErrSyntax, "1\r\nab", "1\r\nab\r\n", "1\r\na\n", "1\r\na\rb", "1\r\na\r\r\n", "1\r\na0\r\n\r\n", "2\r\na\r\n", "2\r\na\r\n0\r\n\r\n", "1\r\n\r\n\r\n")
}

func TestDecodeLimits(t *testing.T) {
	whole := "1388\r\n" + long(5000) + "\r\n"
	checkDecode(t, whole+"0\r\n\r\n", decoded{long(5000), len(whole) + 5, api.OK})
	checkNoBody(t, api.ErrLarge, "1389\r\n", "1389\r\n"+long(5001)+"\r\n0\r\n\r\n", "FFFF\r\n", whole+"1\r\n", whole+"1\r\nx\r\n0\r\n\r\n", whole+"ffff;a\r\n")
	checkNoBody(t, api.ErrShort, whole, whole+"1", whole+"1\r", "1389", "FFFF\r")
	checkNoBody(t, api.ErrSyntax, whole+"1\n", whole+"1\rx", whole[:len(whole)-2]+"x")
	ones := strings.Repeat("1\r\nx\r\n", 5000)
	checkDecode(t, ones+"0\r\n\r\n", decoded{long(5000), len(ones) + 5, api.OK})
	checkNoBody(t, api.ErrLarge, ones+"1\r\n", ones+"1\r\nx\r\n0\r\n\r\n")
	half := "9c4\r\n" + long(2500) + "\r\n"
	checkDecode(t, half+half+"0\r\n\r\n", decoded{long(5000), 2*len(half) + 5, api.OK})
	checkNoBody(t, api.ErrLarge, half+"9c5\r\n", half+half+half)
}

func TestDecodeFields(t *testing.T) {
	head := "1\r\na\r\n0\r\n"
	for tail, err := range map[string]api.Errno{
		"":                                      api.ErrShort,
		"\r":                                    api.ErrShort,
		"\n":                                    api.ErrShort,
		"a":                                     api.ErrShort,
		"\x00":                                  api.ErrShort,
		"a:b\r\n":                               api.ErrShort,
		"a:b\r\n\r":                             api.ErrShort,
		"a:b\n\r\r":                             api.ErrShort,
		"a\r\n":                                 api.ErrSyntax,
		"a\r\n\r\n":                             api.ErrSyntax,
		" a:b\r\n\r\n":                          api.ErrSyntax,
		"a :b\r\n":                              api.ErrSyntax,
		":b\r\n":                                api.ErrSyntax,
		"a:\x00\r\n":                            api.ErrSyntax,
		"a:b\r\nc\r\n":                          api.ErrSyntax,
		"a:b\r\r\n":                             api.ErrSyntax,
		"\n\r\n":                                api.ErrSyntax,
		long(31) + ":b\r\n":                     api.ErrLarge,
		"a:" + long(1001) + "\r\n":              api.ErrLarge,
		long(1101):                              api.ErrShort,
		long(1100) + "\r":                       api.ErrShort,
		long(1100) + "\r\n":                     api.ErrSyntax,
		long(1102):                              api.ErrLarge,
		long(1101) + "\r":                       api.ErrLarge,
		long(1101) + "\r\n":                     api.ErrLarge,
		"a:b\r\n" + long(1101):                  api.ErrShort,
		"a:b\r\n" + long(1102):                  api.ErrLarge,
		"a\r\n" + long(1102):                    api.ErrSyntax,
		long(100000):                            api.ErrLarge,
		strings.Repeat("\n", 1101):              api.ErrShort,
		strings.Repeat("\r", 1102):              api.ErrLarge,
		strings.Repeat("a:b\r\n", 30):           api.ErrShort,
		strings.Repeat("a:b\r\n", 31):           api.ErrLarge,
		strings.Repeat("a:b\r\n", 30) + "x\r\n": api.ErrLarge,
		strings.Repeat("a:b\r\n", 30) + "x\r":   api.ErrShort,
		strings.Repeat("a:b\r\n", 30) + long(1101):  api.ErrShort,
		strings.Repeat("a:b\r\n", 30) + long(1102):  api.ErrLarge,
		strings.Repeat("a:b\r\n", 1000) + "\r\n":    api.ErrLarge,
		strings.Repeat("a:b\r\n", 29) + "x\r\n\r\n": api.ErrSyntax,
	} {
		checkNoBody(t, err, head+tail)
	}
	for _, tail := range []string{
		"\r\n", "a:b\r\n\r\n", "a: b\r\nA:\t c \r\n\r\n", "Content-Length: 7\r\nTransfer-Encoding: gzip\r\n\r\n",
		strings.Repeat("a:b\r\n", 30) + "\r\n",
		strings.Repeat(long(30)+":"+strings.Repeat(" ", 69)+long(1000)+"\r\n", 30) + "\r\n",
	} {
		checkDecode(t, head+tail, decoded{"a", len(head + tail), api.OK})
		checkDecode(t, head+tail+"\r\n", decoded{"a", len(head + tail), api.OK})
		checkDecode(t, head+tail+long(100000), decoded{"a", len(head + tail), api.OK})
	}
}

// bases are bodies at the edges, so that what differs a little from them is wrong in some ways and right in others.
func bases() []string {
	return []string{
		"0\r\n\r\n",
		"3\r\nhel\r\n2;a\r\nlo\r\n0\r\nc: d\r\n\r\n1\r\n",
		"000a;" + long(50) + "\r\n\r\n0\r\n\r\n1\r\n\r\n0;\r\n\r\n",
		"1\r\na\r\n1387;" + long(50) + "\r\n" + long(20),
		"1F\r\n" + long(0x1f) + "\r\n0\r\n\r\n",
	}
}

// nearby are all texts that differ from s in one byte, which is another one, or gone, or new, or the end of them.
func nearby(s string) iter.Seq[string] {
	return func(yield func(string) bool) {
		for i := range len(s) {
			if !yield(s[:i]) || !yield(s[:i]+s[i+1:]) {
				return
			}
			for c := range 256 {
				one := string([]byte{byte(c)})
				if !yield(s[:i]+one+s[i+1:]) || !yield(s[:i]+one+s[i:]) || !yield(s[:i]+one) {
					return
				}
			}
		}
	}
}

func TestDecodeOneByteOtherwise(t *testing.T) {
	for _, base := range bases() {
		checkDecode(t, base, byForm(base))
		for s := range nearby(base) {
			checkDecode(t, s, byForm(s))
		}
	}
}

func TestDecodeOfShortTexts(t *testing.T) {
	for s := range texts("01a;\r\n:", 6) {
		checkDecode(t, s, byForm(s))
		checkDecode(t, "1\r\n"+s, byForm("1\r\n"+s))
	}
	for s := range texts("12\r\n", 5) {
		for _, tail := range []string{"0\r\n\r\n", "\r\n0\r\n\r\n", "\n0\r\n\r\n0\r\n\r\n"} {
			checkDecode(t, s+tail, byForm(s+tail))
		}
	}
}

// P16.

// written is what a Decoder tells behind all that was written to it.
type written struct {
	n    int
	err  api.Errno
	body string
	done bool
}

func (w written) String() string {
	return fmt.Sprintf("%d, error %d, %.60q, done %v", w.n, w.err, w.body, w.done)
}

func write(d *body.Decoder, s string) written {
	var w written
	w.n, w.err = d.Write(s)
	w.body, w.done = d.Body(), d.Done()
	return w
}

// wanted answers what a Decoder should tell of s, if ahead of it all of head came without an error, and it wasn't Done.
func wanted(head, s string) written {
	all := byForm(head + s)
	switch all.err {
	case api.OK:
		return written{all.n - len(head), api.OK, all.body, true}
	case api.ErrShort:
		return written{len(s), api.OK, "", false}
	}
	return written{err: all.err}
}

// checkOver looks whether a Decoder takes nothing any more, and stays as it was.
func checkOver(t *testing.T, d *body.Decoder, was written) {
	t.Helper()
	for _, s := range []string{"", "0", "\r\n", "0\r\n\r\n", long(100000), ""} {
		if got, want := write(d, s), (written{0, api.ErrState, was.body, was.done}); got != want {
			t.Fatalf("behind %v: %v, not %v", was, got, want)
		}
	}
}

// checkPieces writes one piece after the other, up to the end or an error.
func checkPieces(t *testing.T, pieces ...string) {
	t.Helper()
	d := body.New()
	if d.Done() || d.Body() != "" {
		t.Fatal("a new Decoder has something")
	}
	head := ""
	for _, s := range pieces {
		got, want := write(d, s), wanted(head, s)
		if got != want {
			t.Fatalf("%.60q behind %.60q: %v, not %v", s, head, got, want)
		}
		if got.done || got.err != api.OK {
			checkOver(t, d, got)
			return
		}
		head += s
	}
}

// streams have bodies that end, some that don't, and errors of each kind at each place.
func streams() []string {
	return []string{
		"", "0\r\n\r\n", "0\r\n\r\nxyz", "2\r\nab\r\n0\r\n\r\nxyz", "5;x=y\r\nhello\r\n0\r\na:b\r\n\r\nmore",
		"1\r\n\r\r\n1\r\n\n\r\n0\r\n\r\n0\r\n\r\n", "00a\r\n0\r\n\r\n0\r\n\r\n\r\n000;0\r\na:\r\nb:c\r\n\r\n",
		"x", "1\r\nab\r\n", "1\r\na\rb", "00001\r\n", "1;" + long(51), "1;\x00", "FFFF\r\nabc", "1\r\na\r\n1388\r\nabc", "1\r\na\r\n0\r\na\r\n", "1\r\na\r\n0\r\na:\x00\r\n\r\n",
		"0\r\n" + long(31) + ":a\r\n", "0\r\n\n\r\r\n", "1\r\na\n", "1\n", "0\n", "1\ra",
	}
}

func TestWriteInPieces(t *testing.T) {
	checkPieces(t, "2\r", "\nab", "\r\n0\r\n", "\r\nxyz")
	checkPieces(t, "2\r", "\nab", "\r\n0\r\n", "\r", "\n", "x")
	checkPieces(t, "", "", "0", "", "\r\n\r", "", "\n")
	checkPieces(t, "0\r\na", ":", "b\r", "\n\r", "\nabc")
	checkPieces(t, "1\r\na", "b")
	checkPieces(t)
}

func TestWriteByteByByte(t *testing.T) {
	for _, s := range append(streams(), bases()...) {
		checkPieces(t, strings.Split(s, "")...)
		checkPieces(t, s)
	}
}

func TestWriteCutAnywhere(t *testing.T) {
	for _, s := range streams() {
		for i := range len(s) + 1 {
			for j := i; j <= len(s); j++ {
				checkPieces(t, s[:i], s[i:j], s[j:])
			}
		}
	}
}

func TestWriteOneByteOtherwise(t *testing.T) {
	for s := range nearby("2;a\r\nab\r\n0\r\nc: d\r\n\r\n1") {
		checkPieces(t, strings.Split(s, "")...)
	}
}

func TestWriteLimitsByteByByte(t *testing.T) {
	most := strings.Repeat(long(30)+":"+strings.Repeat(" ", 69)+long(1000)+"\r\n", 30)
	head := strings.Repeat("0001;"+long(50)+"\r\nx\r\n", 5000) + "0000;" + long(50) + "\r\n"
	for _, x := range []struct {
		tail string
		want decoded
	}{
		{most + "\r\n", decoded{long(5000), len(head + most + "\r\n"), api.OK}},
		{most + "\r\nxyz", decoded{long(5000), len(head + most + "\r\n"), api.OK}},
		{most + long(1101), decoded{err: api.ErrShort}},
		{most + long(1102), decoded{n: len(head+most) + 1102, err: api.ErrLarge}},
		{most + "a\r\n", decoded{n: len(head + most + "a\r\n"), err: api.ErrLarge}},
		{most + long(1100) + "\r\n", decoded{n: len(head+most) + 1102, err: api.ErrLarge}},
		{"a:b\r\n" + long(1100) + "\r\n", decoded{n: len(head) + 5 + 1102, err: api.ErrSyntax}},
		{"a:b\r\n" + long(1101) + "\r\n", decoded{n: len(head) + 5 + 1102, err: api.ErrLarge}},
	} {
		if got := endOf(head + x.tail); got != x.want {
			t.Errorf("%.20q (%d bytes): %v, not %v", x.tail, len(x.tail), got, x.want)
		}
	}
}

// endOf writes s byte by byte: the body and how many bytes it has, or an error and the byte with which it came.
func endOf(s string) decoded {
	d := body.New()
	for i := range len(s) {
		if _, err := d.Write(s[i : i+1]); err != api.OK {
			return decoded{n: i + 1, err: err}
		}
		if d.Done() {
			return decoded{d.Body(), i + 1, api.OK}
		}
	}
	return decoded{err: api.ErrShort}
}

func TestWriteWhatEncodeTells(t *testing.T) {
	for size := 1; size < 40; size++ {
		s := strings.Repeat("ab\r\n0\r\n\r\n", 4)
		text, _ := body.Encode(s, size)
		for step := 1; step < 12; step++ {
			d := body.New()
			rest := text + "x"
			for !d.Done() {
				n, err := d.Write(rest[:min(step, len(rest))])
				if err != api.OK || n == 0 {
					t.Fatalf("size %d, step %d: %d %d at %q", size, step, n, err, rest)
				}
				rest = rest[n:]
			}
			if d.Body() != s || rest != "x" {
				t.Fatalf("size %d, step %d: %q, and %q is left", size, step, d.Body(), rest)
			}
		}
	}
}

func TestDecodersAreApart(t *testing.T) {
	a, b := body.New(), body.New()
	a.Write("2\r\nab")
	b.Write("3\r\ncd")
	a.Write("\r\n0\r\n\r\n")
	if a.Body() != "ab" || !a.Done() || b.Body() != "" || b.Done() {
		t.Errorf("%q %v, %q %v", a.Body(), a.Done(), b.Body(), b.Done())
	}
	if _, err := b.Write("e\n"); err != api.ErrSyntax || a.Body() != "ab" || !a.Done() {
		t.Errorf("%d, %q %v", err, a.Body(), a.Done())
	}
	if n, err := body.New().Write("0\r\n\r\n"); n != 5 || err != api.OK {
		t.Errorf("%d %d", n, err)
	}
}
