package pack

import (
	"bytes"
	"math"
	"strings"
	"testing"

	"carcanet/api"
)

// call is one call of a reader's, and what it is to tell.
type call struct {
	what string
	size int
	num  uint64
	text string
}

// check makes the call and holds what it told against what was wanted.
func (c call) check(t *testing.T, r *Reader) {
	t.Helper()
	switch c.what {
	case "num":
		if n := r.Num(c.size); n != c.num {
			t.Errorf("Num(%d): %d, wanted %d", c.size, n, c.num)
		}
	case "text":
		if s := r.Text(c.size); s != c.text {
			t.Errorf("Text(%d): %q, wanted %q", c.size, s, c.text)
		}
	case "raw":
		if s := r.Raw(c.size); s != c.text {
			t.Errorf("Raw(%d): %q, wanted %q", c.size, s, c.text)
		}
	}
}

// silent asks all there is of a reader that is to tell nothing, and then how it ended.
func silent(t *testing.T, r *Reader, want api.Errno) {
	t.Helper()
	for _, size := range []int{math.MinInt, -1, 0, 1, 2, 8, 9, 65535, math.MaxInt} {
		for _, what := range []string{"num", "text", "raw"} {
			call{what: what, size: size}.check(t, r)
			if n := r.Left(); n != 0 {
				t.Errorf("Left behind %s(%d): %d", what, size, n)
			}
			if e := r.End(); e != want {
				t.Errorf("End behind %s(%d): %d, wanted %d", what, size, e, want)
			}
		}
	}
}

// P1.1

func TestNumPutsTheLowestBytesTheHighestFirst(t *testing.T) {
	below := -2
	for _, x := range []struct {
		b    string
		n    uint64
		size int
		want string
	}{
		{"", 258, 3, "\x00\x01\x02"},
		{"", 0, 1, "\x00"},
		{"ab", 0x0102030405060708, 1, "ab\x08"},
		{"ab", 0x0102030405060708, 2, "ab\x07\x08"},
		{"ab", 0x0102030405060708, 7, "ab\x02\x03\x04\x05\x06\x07\x08"},
		{"ab", 0x0102030405060708, 8, "ab\x01\x02\x03\x04\x05\x06\x07\x08"},
		{"", math.MaxUint64, 8, "\xff\xff\xff\xff\xff\xff\xff\xff"},
		{"", uint64(below), 8, "\xff\xff\xff\xff\xff\xff\xff\xfe"},
		{"", uint64(below), 3, "\xff\xff\xfe"},
	} {
		if b := Num([]byte(x.b), x.n, x.size); string(b) != x.want {
			t.Errorf("Num(%q, %d, %d): %q, wanted %q", x.b, x.n, x.size, b, x.want)
		}
	}
}

func TestNumOfASizeThatIsNoneIsB(t *testing.T) {
	for _, size := range []int{math.MinInt, -8, -1, 0, 9, 16, math.MaxInt} {
		if b := Num([]byte("ab"), math.MaxUint64, size); string(b) != "ab" {
			t.Errorf("%d: %q", size, b)
		}
		if b := Num(nil, math.MaxUint64, size); len(b) != 0 {
			t.Errorf("%d, nil: %q", size, b)
		}
	}
}

func TestTextPutsLengthAndBytes(t *testing.T) {
	for _, x := range []struct{ b, s, want string }{
		{"", "ab", "\x00\x02ab"},
		{"", "", "\x00\x00"},
		{"xy", "", "xy\x00\x00"},
		{"xy", "\x00\xff\xc3", "xy\x00\x03\x00\xff\xc3"},
		{"", strings.Repeat("a", 256), "\x01\x00" + strings.Repeat("a", 256)},
		{"", strings.Repeat("a", 65534), "\xff\xfe" + strings.Repeat("a", 65534)},
		{"", strings.Repeat("a", 65535), "\xff\xff" + strings.Repeat("a", 65535)},
	} {
		if b := Text([]byte(x.b), x.s); string(b) != x.want {
			t.Errorf("Text(%q, of %d bytes): %d bytes, wanted %d", x.b, len(x.s), len(b), len(x.want))
		}
	}
}

func TestTextOfTooManyBytesIsCut(t *testing.T) {
	first := strings.Repeat("a", 65535)
	for _, more := range []string{"z", "zz", strings.Repeat("z", 65536)} {
		if b := Text([]byte("x"), first+more); string(b) != "x\xff\xff"+first {
			t.Errorf("%d bytes more: %d", len(more), len(b))
		}
	}
}

func TestWhatIsPutBehindLeavesWhatIsAheadAlone(t *testing.T) {
	for _, room := range []int{0, 1, 64} {
		b := append(make([]byte, 0, 2+room), "ab"...)
		if got := Num(b, 258, 2); string(got) != "ab\x01\x02" || string(b) != "ab" {
			t.Errorf("Num, room of %d: %q, %q", room, got, b)
		}
		if got := Text(b, "cd"); string(got) != "ab\x00\x02cd" || string(b) != "ab" {
			t.Errorf("Text, room of %d: %q, %q", room, got, b)
		}
	}
}

// P1.2

func TestReaderTellsWhatIsNext(t *testing.T) {
	b := []byte("\x00\x01\x02\x00\x02ab\xff\xfe\xfd\xfc\xfb\xfa\xf9\xf8\x00\x00\xc3\xa4\x09")
	r := Open(b)
	if n := r.Left(); n != 20 {
		t.Errorf("Left at the beginning: %d", n)
	}
	for _, x := range []struct {
		call
		left int
	}{
		{call{what: "raw", size: 0}, 20},
		{call{what: "num", size: 3, num: 258}, 17},
		{call{what: "text", size: 2, text: "ab"}, 13},
		{call{what: "num", size: 8, num: 0xfffefdfcfbfaf9f8}, 5},
		{call{what: "text", size: 0}, 3},
		{call{what: "raw", size: 2, text: "\xc3\xa4"}, 1},
		{call{what: "num", size: 1, num: 9}, 0},
	} {
		x.check(t, r)
		if n := r.Left(); n != x.left {
			t.Errorf("Left behind %s(%d): %d, wanted %d", x.what, x.size, n, x.left)
		}
	}
	if e := r.End(); e != api.OK {
		t.Errorf("End: %d", e)
	}
}

func TestNumReadsEachSize(t *testing.T) {
	b := []byte{0x81, 0x82, 0x83, 0x84, 0x85, 0x86, 0x87, 0x88}
	want := []uint64{0x81, 0x8182, 0x818283, 0x81828384, 0x8182838485, 0x818283848586, 0x81828384858687, 0x8182838485868788}
	for i, n := range want {
		r := Open(b)
		call{what: "num", size: i + 1, num: n}.check(t, r)
		if left := r.Left(); left != 7-i {
			t.Errorf("%d left behind %d bytes", left, i+1)
		}
	}
}

func TestRefusedCallsTellTheirError(t *testing.T) {
	long := string(Text(nil, strings.Repeat("a", 65535)))
	for _, x := range []struct {
		b string
		call
		want api.Errno
	}{
		{"abc", call{what: "raw", size: -1}, api.ErrArg},
		{"abc", call{what: "raw", size: math.MinInt}, api.ErrArg},
		{"", call{what: "raw", size: -1}, api.ErrArg},
		{"abc", call{what: "raw", size: 4}, api.ErrShort},
		{"abc", call{what: "raw", size: math.MaxInt}, api.ErrShort},
		{"", call{what: "raw", size: 1}, api.ErrShort},
		{"abc", call{what: "num", size: 0}, api.ErrArg},
		{"abc", call{what: "num", size: -1}, api.ErrArg},
		{"abcdefghij", call{what: "num", size: 9}, api.ErrArg},
		{"abc", call{what: "num", size: 9}, api.ErrArg}, // of both, the size is asked first
		{"abc", call{what: "num", size: math.MinInt}, api.ErrArg},
		{"abc", call{what: "num", size: math.MaxInt}, api.ErrArg},
		{"abc", call{what: "num", size: 4}, api.ErrShort},
		{"abcdefg", call{what: "num", size: 8}, api.ErrShort},
		{"", call{what: "num", size: 1}, api.ErrShort},
		{"", call{what: "text", size: 9}, api.ErrShort},
		{"\x00", call{what: "text", size: 9}, api.ErrShort},
		{"\x00", call{what: "text", size: -1}, api.ErrShort}, // the length is read ahead of asking most
		{"\x00\x02ab", call{what: "text", size: 1}, api.ErrBig},
		{"\x00\x02ab", call{what: "text", size: 0}, api.ErrBig},
		{"\x00\x00ab", call{what: "text", size: -1}, api.ErrBig},
		{"\x00\x00ab", call{what: "text", size: math.MinInt}, api.ErrBig},
		{"\x00\x03ab", call{what: "text", size: 2}, api.ErrBig}, // of both, most is asked first
		{"\x00\x03ab", call{what: "text", size: 3}, api.ErrShort},
		{"\x00\x03ab", call{what: "text", size: math.MaxInt}, api.ErrShort},
		{long, call{what: "text", size: 65534}, api.ErrBig},
		{long[:len(long)-1], call{what: "text", size: 65535}, api.ErrShort},
	} {
		r := Open([]byte(x.b))
		x.check(t, r)
		if e := r.End(); e != x.want {
			t.Errorf("%s(%d) of %d bytes: %d, wanted %d", x.what, x.size, len(x.b), e, x.want)
		}
		silent(t, r, x.want)
	}
}

func TestEdgesThatAreNotRefused(t *testing.T) {
	long := strings.Repeat("a", 65535)
	for _, x := range []struct {
		b string
		call
	}{
		{"", call{what: "raw", size: 0}},
		{"abc", call{what: "raw", size: 3, text: "abc"}},
		{"a", call{what: "num", size: 1, num: 'a'}},
		{"\xff\xff\xff\xff\xff\xff\xff\xff", call{what: "num", size: 8, num: math.MaxUint64}},
		{"\x00\x00", call{what: "text", size: 0}},
		{"\x00\x02ab", call{what: "text", size: 2, text: "ab"}},
		{"\x00\x02ab", call{what: "text", size: math.MaxInt, text: "ab"}},
		{"\xff\xff" + long, call{what: "text", size: 65535, text: long}},
	} {
		r := Open([]byte(x.b))
		x.check(t, r)
		if n, e := r.Left(), r.End(); n != 0 || e != api.OK {
			t.Errorf("%s(%d): %d left, End %d", x.what, x.size, n, e)
		}
	}
}

func TestReaderHasACopyOfItsOwn(t *testing.T) {
	b := []byte("\x00\x02abcdef")
	r := Open(b[:4])
	clear(b)
	call{what: "text", size: 9, text: "ab"}.check(t, r)
	if n, e := r.Left(), r.End(); n != 0 || e != api.OK {
		t.Errorf("what lies behind b's length was opened: %d left, End %d", n, e)
	}
	b = []byte("\x00\x02abcdef")
	r = Open(b)
	r.Text(2)
	r.Raw(9)
	if string(b) != "\x00\x02abcdef" {
		t.Errorf("what was handed in was changed: %q", b)
	}
}

func TestReadersOfTheSameBytesKnowNothingOfEachOther(t *testing.T) {
	b := []byte("abc")
	one, other := Open(b), Open(b)
	one.Raw(9)
	call{what: "raw", size: 3, text: "abc"}.check(t, other)
	if one.End() != api.ErrShort || other.End() != api.OK {
		t.Errorf("%d, %d", one.End(), other.End())
	}
}

// P1.3

func TestEndTellsWhetherBytesAreLeft(t *testing.T) {
	for _, b := range [][]byte{nil, {}} {
		if e := Open(b).End(); e != api.OK {
			t.Errorf("nothing: %d", e)
		}
	}
	r := Open([]byte("abc"))
	for left := 3; left > 0; left-- {
		if e := r.End(); e != api.ErrRest || r.Left() != left {
			t.Errorf("%d left: %d", r.Left(), e)
		}
		r.Raw(1) // ErrRest is no error that the reader has met: it reads on
	}
	if e := r.End(); e != api.OK {
		t.Errorf("at the end: %d", e)
	}
}

func TestEndGoesOnTellingTheFirstError(t *testing.T) {
	for _, x := range []struct {
		first call
		want  api.Errno
	}{
		{call{what: "num", size: 0}, api.ErrArg},
		{call{what: "raw", size: -1}, api.ErrArg},
		{call{what: "raw", size: 99}, api.ErrShort},
		{call{what: "num", size: 8}, api.ErrShort},
		{call{what: "text", size: 0}, api.ErrBig},
	} {
		r := Open([]byte("\x00\x02ab"))
		call{what: "raw", size: 0}.check(t, r)
		x.first.check(t, r)
		silent(t, r, x.want)
	}
}

func TestReaderThatIsNil(t *testing.T) {
	var r *Reader
	if e := r.End(); e != api.ErrNil {
		t.Errorf("%d", e)
	}
	silent(t, r, api.ErrNil)
}

// P1.4

// play puts as many things as there are pairs of bytes in plan, one behind the other, and tells by which calls they are read.
func play(plan []byte) ([]byte, []call) {
	var b []byte
	var calls []call
	for i := 0; i+1 < len(plan); i += 2 {
		size, seed := int(plan[i]%8)+1, uint64(plan[i+1])
		switch plan[i] / 8 % 3 {
		case 0:
			n := (seed + 1) * 0x9e3779b97f4a7c15
			b = Num(b, n, size)
			calls = append(calls, call{what: "num", size: size, num: n << (64 - 8*size) >> (64 - 8*size)})
		case 1:
			s := strings.Repeat(string([]byte{byte(seed), 0, 0xff}), size*int(seed))
			b = Text(b, s)
			calls = append(calls, call{what: "text", size: len(s), text: s})
		case 2:
			s := strings.Repeat(string([]byte{byte(seed)}), size)
			b = append(b, s...)
			calls = append(calls, call{what: "raw", size: size, text: s})
		}
	}
	return b, calls
}

// readBack reads what was put, up to its end, and then without its last byte.
func readBack(t *testing.T, plan []byte) {
	b, calls := play(plan)
	kept := bytes.Clone(b)
	r := Open(b)
	for _, c := range calls {
		c.check(t, r)
	}
	if n, e := r.Left(), r.End(); n != 0 || e != api.OK {
		t.Errorf("plan %v: %d left, End %d", plan, n, e)
	}
	if !bytes.Equal(b, kept) {
		t.Errorf("plan %v: reading changed what was read", plan)
	}
	if len(b) == 0 {
		return
	}
	r = Open(b[:len(b)-1])
	for i, c := range calls {
		if i == len(calls)-1 {
			c.num, c.text = 0, ""
		}
		c.check(t, r)
	}
	silent(t, r, api.ErrShort)
}

func TestWhatIsPutIsRead(t *testing.T) {
	readBack(t, nil)
	for kind := range 24 {
		for seed := 0; seed < 256; seed += 5 {
			readBack(t, []byte{byte(kind), byte(seed)})
		}
	}
	state := uint32(1)
	for length := range 60 {
		plan := make([]byte, length)
		for i := range plan {
			state = state*1664525 + 1013904223
			plan[i] = byte(state >> 24)
		}
		readBack(t, plan)
	}
}

func FuzzWhatIsPutIsRead(f *testing.F) {
	f.Add([]byte{0, 1, 9, 2, 17, 3})
	f.Fuzz(func(t *testing.T, plan []byte) { readBack(t, plan) })
}

// Rule 1: no call panics, and Left never rises, whatever is read of whatever bytes.
func FuzzReaderOfAnyBytes(f *testing.F) {
	f.Add([]byte("\x00\x02ab"), []byte{1, 2, 3})
	f.Add([]byte{}, []byte{0, 255})
	f.Fuzz(func(t *testing.T, b, plan []byte) {
		r := Open(b)
		for _, p := range plan {
			ahead := r.Left()
			size := int(int8(p)) / 3
			switch p % 3 {
			case 0:
				r.Num(size)
			case 1:
				r.Text(size)
			case 2:
				r.Raw(size)
			}
			if r.Left() > ahead {
				t.Fatalf("%d left of %d", r.Left(), ahead)
			}
		}
	})
}
