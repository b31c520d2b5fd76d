package body

import (
	"bytes"

	"larder/api"
	"larder/field"
	"larder/token"
)

const maxExtra = 50 // bytes behind the `;` of a chunk's line

// Decoder takes a body in chunks as it comes.
type Decoder struct {
	next   step   // what may come next; none, if nothing may
	body   []byte // what has come of the body
	fields []byte // what has come of the last chunk's fields
	done   bool
}

// A step takes one byte, and answers what may come behind it. It sees every byte as it comes, so that an error is told as soon as there is one, however a body is cut into texts.
type step func(d *Decoder, c byte) (step, api.Errno)

// New answers a Decoder to which nothing has come.
func New() *Decoder {
	return &Decoder{next: takeNumber(0, 0)}
}

// Write takes s behind what has come, and answers how many bytes of it belong to the body.
func (d *Decoder) Write(s string) (int, api.Errno) {
	if d.next == nil {
		return 0, api.ErrState
	}
	for i := range len(s) {
		next, err := d.next(d, s[i])
		if err != api.OK {
			// What has come is of no use any more, and nothing may come next.
			*d = Decoder{}
			return 0, err
		}
		d.next = next
		if d.done {
			return i + 1, api.OK
		}
	}
	return len(s), api.OK
}

// Body answers the body, once all of it is there.
func (d *Decoder) Body() string {
	if !d.done {
		return ""
	}
	return string(d.body)
}

// Done tells whether all of the body is there.
func (d *Decoder) Done() bool {
	return d.done
}

// takeNumber takes how many bytes a chunk has: so many digits have come, and they say n.
func takeNumber(digits, n int) step {
	return func(_ *Decoder, c byte) (step, api.Errno) {
		digit, isDigit := hexDigit(c)
		switch {
		case isDigit && digits < maxDigits:
			return takeNumber(digits+1, n*16+digit), api.OK
		case digits > 0 && c == ';':
			return takeExtra(0, n), api.OK
		case digits > 0 && c == '\r':
			return endNumber(n), api.OK
		}
		return nil, api.ErrSyntax
	}
}

// takeExtra takes what is behind the number of a chunk of n bytes: so many bytes of it have come.
func takeExtra(count, n int) step {
	return func(_ *Decoder, c byte) (step, api.Errno) {
		switch {
		case c == '\r':
			return endNumber(n), api.OK
		case count < maxExtra && token.IsPlain(string([]byte{c})):
			return takeExtra(count+1, n), api.OK
		}
		return nil, api.ErrSyntax
	}
}

// endNumber takes the byte that ends the line of a chunk of n bytes.
func endNumber(n int) step {
	return func(d *Decoder, c byte) (step, api.Errno) {
		switch {
		case c != '\n':
			return nil, api.ErrSyntax
		case len(d.body)+n > api.MaxBody:
			return nil, api.ErrLarge
		case n == 0:
			return takeFields(0), api.OK
		}
		return takeBytes(n), api.OK
	}
}

// takeBytes takes a chunk's bytes, of which so many have not come yet.
func takeBytes(left int) step {
	return func(d *Decoder, c byte) (step, api.Errno) {
		d.body = append(d.body, c)
		if left > 1 {
			return takeBytes(left - 1), api.OK
		}
		return takeText(lineEnd, takeNumber(0, 0)), api.OK
	}
}

// takeText takes just this text, and then what the other step takes.
func takeText(text string, then step) step {
	return func(_ *Decoder, c byte) (step, api.Errno) {
		switch {
		case c != text[0]:
			return nil, api.ErrSyntax
		case len(text) > 1:
			return takeText(text[1:], then), api.OK
		}
		return then, api.OK
	}
}

// takeFields takes the last chunk's fields: so many bytes of a line have come.
func takeFields(count int) step {
	return func(d *Decoder, c byte) (step, api.Errno) {
		d.fields = append(d.fields, c)
		ended := bytes.HasSuffix(d.fields, []byte(lineEnd))
		if !ended && count < field.MaxLine {
			// Not asked of each byte, as all that has come would be read again each time.
			return takeFields(count + 1), api.OK
		}
		_, _, err := field.Parse(string(d.fields))
		switch {
		case err == api.OK:
			d.done = true
			d.fields = nil
			return nil, api.OK
		case err != api.ErrShort:
			return nil, err
		case ended:
			return takeFields(0), api.OK
		}
		return takeFields(count + 1), api.OK
	}
}

func hexDigit(c byte) (int, bool) {
	switch {
	case '0' <= c && c <= '9':
		return int(c - '0'), true
	case 'a' <= c && c <= 'f':
		return int(c-'a') + 10, true
	case 'A' <= c && c <= 'F':
		return int(c-'A') + 10, true
	}
	return 0, false
}
