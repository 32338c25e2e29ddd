// Package pack is layer 1: numbers and texts as bytes, one behind the other. See shared/doc/01-pack.md.
package pack

import "carcanet/api"

const (
	mostNum  = 8     // a uint64 has no more bytes
	textHead = 2     // bytes that tell a text's length
	mostText = 65535 // the greatest length that a text's head can tell
)

// Num answers b, and behind it the lowest size bytes of n, the highest of them first.
func Num(b []byte, n uint64, size int) []byte {
	if !fitsNum(size) {
		return b
	}
	for i := range size {
		b = append(b, byte(n>>(8*(size-1-i))))
	}
	return b
}

// Text answers b, and behind it the length of s and s, which is cut to what a length can tell.
func Text(b []byte, s string) []byte {
	s = s[:min(len(s), mostText)]
	return append(Num(b, uint64(len(s)), textHead), s...)
}

func fitsNum(size int) bool { return size >= 1 && size <= mostNum }

// Reader reads what Num and Text put.
type Reader struct {
	rest  string
	first api.Errno
}

// Open answers a reader that stands at the beginning of a copy of b.
func Open(b []byte) *Reader { return &Reader{rest: string(b)} }

// refuse keeps e, unless an error was met ahead of it. The rest goes, so that no later call finds anything to tell.
func (r *Reader) refuse(e api.Errno) {
	if r == nil || r.first != api.OK {
		return
	}
	r.rest, r.first = "", e
}

// Num reads the next size bytes as a number, the highest first.
func (r *Reader) Num(size int) uint64 {
	if !fitsNum(size) {
		r.refuse(api.ErrArg)
		return 0
	}
	raw := r.Raw(size)
	n := uint64(0)
	for i := range len(raw) {
		n = n<<8 | uint64(raw[i])
	}
	return n
}

// Text reads a text of at most so many bytes.
func (r *Reader) Text(most int) string {
	size := int(r.Num(textHead))
	if size > most {
		r.refuse(api.ErrBig)
		return ""
	}
	return r.Raw(size)
}

// Raw reads the next size bytes.
func (r *Reader) Raw(size int) string {
	switch {
	case r == nil:
		return ""
	case size < 0:
		r.refuse(api.ErrArg)
		return ""
	case size > len(r.rest):
		r.refuse(api.ErrShort)
		return ""
	}
	raw := r.rest[:size]
	r.rest = r.rest[size:]
	return raw
}

// Left tells how many bytes are left.
func (r *Reader) Left() int {
	if r == nil {
		return 0
	}
	return len(r.rest)
}

// End tells the error that was met first, or else whether bytes are left.
func (r *Reader) End() api.Errno {
	switch {
	case r == nil:
		return api.ErrNil
	case r.first != api.OK:
		return r.first
	case len(r.rest) > 0:
		return api.ErrRest
	}
	return api.OK
}
