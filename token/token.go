// Package token: tokens and lists: see doc/01-token.md.
package token

import (
	"strings"

	"larder/api"
)

const (
	signs   = "!#$%&'*+-.^_`|~"
	blanks  = " \t"
	lineEnd = "\r\n"
)

// IsToken tells whether s is one or more of the bytes that a TOKEN is made of.
func IsToken(s string) bool {
	for i := range len(s) {
		if !inToken(s[i]) {
			return false
		}
	}
	return s != ""
}

// Lower answers s with its letters A to Z as a to z.
func Lower(s string) string {
	// Byte by byte, as strings.ToLower would also change letters beyond ASCII.
	var b strings.Builder
	b.Grow(len(s))
	for i := range len(s) {
		c := s[i]
		if 'A' <= c && c <= 'Z' {
			c += 'a' - 'A'
		}
		b.WriteByte(c)
	}
	return b.String()
}

// IsPlain tells whether s has no other bytes than PLAIN ones.
func IsPlain(s string) bool {
	for i := range len(s) {
		if !inPlain(s[i]) {
			return false
		}
	}
	return true
}

// Trim answers s without the BLANKS ahead and behind. What it answers lies in s: who hands it on clones it.
func Trim(s string) string {
	return strings.Trim(s, blanks)
}

// CutLine answers the line with which s begins, without its end, and what stands behind that end. A line may have at most so many bytes. What it answers lies in s: who hands it on clones it.
func CutLine(s string, most int) (line, behind string, err api.Errno) {
	line, behind, found := strings.Cut(s, lineEnd)
	switch {
	case found && len(line) <= most:
		return line, behind, api.OK
	case !found && len(s) <= most+1:
		// One byte more than a line may have: it may be the first one of its end.
		return "", "", api.ErrShort
	}
	return "", "", api.ErrLarge
}

// Quote answers s between two `"`, so that Unquote reads it as it was.
func Quote(s string) (string, api.Errno) {
	if len(s) > api.MaxText {
		return "", api.ErrLarge
	}
	var b strings.Builder
	b.WriteByte('"')
	for i := range len(s) {
		c := s[i]
		if !inPlain(c) {
			return "", api.ErrSyntax
		}
		if c == '"' || c == '\\' {
			b.WriteByte('\\')
		}
		b.WriteByte(c)
	}
	b.WriteByte('"')
	return b.String(), api.OK
}

// Unquote answers what stands between the two `"` of s.
func Unquote(s string) (string, api.Errno) {
	last := len(s) - 1
	if last < 1 || s[0] != '"' || s[last] != '"' {
		return "", api.ErrSyntax
	}
	text, ok := unescape(s[1:last])
	if !ok {
		return "", api.ErrSyntax
	}
	// What can't be read goes ahead of what is too long, so this is asked last.
	if len(text) > api.MaxText {
		return "", api.ErrLarge
	}
	return text, api.OK
}

// ReadValue answers the value that s tells, as a TOKEN or as what Unquote can read, and whether it tells one.
func ReadValue(s string) (string, bool) {
	if IsToken(s) {
		// A copy: s was handed in.
		return strings.Clone(s), true
	}
	value, err := Unquote(s)
	return value, err == api.OK
}

// Split answers the parts of s between its commas.
func Split(s string) ([]string, api.Errno) {
	if len(s) > api.MaxText {
		return nil, api.ErrLarge
	}
	pieces, ok := cut(s, ',')
	if !ok {
		return nil, api.ErrSyntax
	}
	var parts []string
	for _, piece := range pieces {
		if part := Trim(piece); part != "" {
			// A copy: a piece shares its memory with s.
			parts = append(parts, strings.Clone(part))
		}
	}
	if len(parts) > api.MaxItems {
		return nil, api.ErrLarge
	}
	return parts, api.OK
}

// Params answers the value that s begins with, and its parameters.
func Params(s string) (string, []api.Param, api.Errno) {
	if len(s) > api.MaxText {
		return "", nil, api.ErrLarge
	}
	pieces, ok := cut(s, ';')
	if !ok {
		return "", nil, api.ErrSyntax
	}
	value := Trim(pieces[0])
	if value == "" {
		return "", nil, api.ErrSyntax
	}
	params, ok := readParams(pieces[1:])
	if !ok {
		return "", nil, api.ErrSyntax
	}
	if len(params) > api.MaxItems {
		return "", nil, api.ErrLarge
	}
	return strings.Clone(value), params, api.OK
}

// readParams reads all pieces, however many there are: a piece that can't be read goes ahead of too many of them.
func readParams(pieces []string) ([]api.Param, bool) {
	var params []api.Param
	for _, piece := range pieces {
		text := Trim(piece)
		if text == "" {
			continue
		}
		param, ok := readParam(text)
		if !ok {
			return nil, false
		}
		params = append(params, param)
	}
	return params, true
}

func readParam(s string) (api.Param, bool) {
	// No TOKEN has a `=`, so the first one ends the name.
	name, text, found := strings.Cut(s, "=")
	if !found || !IsToken(name) {
		return api.Param{}, false
	}
	value, ok := ReadValue(text)
	if !ok {
		return api.Param{}, false
	}
	return api.Param{Name: Lower(name), Value: value}, true
}

// unescape answers s without the `\`s that count; not ok, if s can't stand between two `"`.
func unescape(s string) (string, bool) {
	var b strings.Builder
	counts := false
	for i := range len(s) {
		c := s[i]
		switch {
		case !inPlain(c):
			return "", false
		case counts:
			b.WriteByte(c)
			counts = false
		case c == '"':
			return "", false
		case c == '\\':
			counts = true
		default:
			b.WriteByte(c)
		}
	}
	// A `\` that still counts would take the closing `"` along.
	return b.String(), !counts
}

// cut answers the pieces of s (at least one) between those sep that aren't within `"`s; not ok, if a `"` has no next one.
func cut(s string, sep byte) ([]string, bool) {
	var pieces []string
	start := 0
	within := false
	for i := 0; i < len(s); i++ {
		switch c := s[i]; {
		case within && c == '\\':
			// The byte behind it neither ends the quoted text nor begins anything.
			i++
		case c == '"':
			within = !within
		case c == sep && !within:
			pieces = append(pieces, s[start:i])
			start = i + 1
		}
	}
	return append(pieces, s[start:]), !within
}

func inToken(c byte) bool {
	switch {
	case 'a' <= c && c <= 'z', 'A' <= c && c <= 'Z', '0' <= c && c <= '9':
		return true
	}
	return strings.IndexByte(signs, c) >= 0
}

func inPlain(c byte) bool {
	return 32 <= c && c <= 126 || c == 9
}
