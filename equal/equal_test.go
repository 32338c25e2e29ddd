package equal

import (
	"bytes"
	"math/bits"
	"strings"
	"testing"
)

// lengths are the numbers of bytes at which the calls are tried: none, one, those about a word's, and many.
var lengths = []int{0, 1, 2, 3, 7, 8, 9, 15, 16, 17, 31, 32, 33, 63, 64, 65, 255, 256, 257, 1000, 65537}

// made answers so many bytes without a plain order, the same ones for the same seed.
func made(length int, seed byte) []byte {
	b := make([]byte, length)
	state := uint32(seed)*2654435761 + 1
	for i := range b {
		state = state*1664525 + 1013904223
		b[i] = byte(state>>24) ^ seed
	}
	return b
}

// places answers the places of so many bytes that are worth a look: all of few, else the first, the middle and the last.
func places(length int) []int {
	if length > 70 {
		return []int{0, 1, length / 2, length - 2, length - 1}
	}
	all := make([]int, length)
	for i := range all {
		all[i] = i
	}
	return all
}

// P2.1

func TestBytesThatAreTheSame(t *testing.T) {
	for _, n := range lengths {
		a, b := made(n, 5), made(n, 5)
		if !Bytes(a, b) || !Bytes(b, a) || !Bytes(a, a) {
			t.Errorf("%d bytes that are the same", n)
		}
		if !Bytes(make([]byte, n), make([]byte, n)) {
			t.Errorf("%d bytes 0", n)
		}
	}
}

func TestBytesOfNothing(t *testing.T) {
	none := [][]byte{nil, {}, make([]byte, 0, 8), []byte("abc")[:0]}
	for i, a := range none {
		for j, b := range none {
			if !Bytes(a, b) {
				t.Errorf("nothing %d, nothing %d", i, j)
			}
		}
		for _, b := range []string{"\x00", "a", "\x00\x00", "abc"} {
			if Bytes(a, []byte(b)) || Bytes([]byte(b), a) {
				t.Errorf("nothing %d, %q", i, b)
			}
		}
	}
}

func TestBytesOfUnlikeNumbers(t *testing.T) {
	for _, n := range lengths {
		for _, more := range []int{1, 2, 255, 256, 65536} {
			// of the one that has more: what both have is the same, and the rest may be 0
			a := made(n, 9)
			for _, rest := range [][]byte{make([]byte, more), made(more, 3)} {
				b := append(bytes.Clone(a), rest...)
				if Bytes(a, b) || Bytes(b, a) {
					t.Errorf("%d bytes, and %d more", n, more)
				}
			}
			if Bytes(make([]byte, n), make([]byte, n+more)) {
				t.Errorf("%d bytes 0, and %d more", n, more)
			}
		}
	}
}

func TestBytesOfWhichOneBitDiffers(t *testing.T) {
	for _, n := range lengths {
		a := made(n, 1)
		for _, at := range places(n) {
			for bit := range 8 {
				b := bytes.Clone(a)
				b[at] ^= 1 << bit
				if Bytes(a, b) || Bytes(b, a) {
					t.Errorf("%d bytes that differ at %d in bit %d", n, at, bit)
				}
			}
		}
	}
}

// Differences at several places must not undo one another, as they would if they were summed or held against each other.
func TestBytesOfWhichSeveralDiffer(t *testing.T) {
	for _, x := range []struct{ a, b string }{
		{"ab", "ba"},
		{"abc", "cba"},
		{"\x00\x00", "\x01\x01"},
		{"\x00\x00", "\x01\xff"},
		{"\x80\x80", "\x00\x00"},
		{"\x0f\xf0", "\xf0\x0f"},
		{strings.Repeat("\x00", 256), strings.Repeat("\x01", 256)},
		{strings.Repeat("a", 64), strings.Repeat("b", 64)},
	} {
		if Bytes([]byte(x.a), []byte(x.b)) || Bytes([]byte(x.b), []byte(x.a)) {
			t.Errorf("%q, %q", x.a, x.b)
		}
	}
}

func TestBytesOfEachPairOfBytes(t *testing.T) {
	for a := range 256 {
		for b := range 256 {
			if Bytes([]byte{byte(a)}, []byte{byte(b)}) != (a == b) {
				t.Errorf("%d, %d", a, b)
			}
		}
	}
}

func TestZeroOfBytesThatAreAll0(t *testing.T) {
	if !Zero(nil) || !Zero([]byte{}) || !Zero([]byte("abc")[:0]) {
		t.Error("nothing")
	}
	for _, n := range lengths {
		if !Zero(make([]byte, n)) {
			t.Errorf("%d bytes", n)
		}
	}
}

func TestZeroOfBytesOfWhichOneIsNot(t *testing.T) {
	for _, n := range lengths {
		for _, at := range places(n) {
			for _, value := range []byte{1, 2, 4, 8, 16, 32, 64, 128, 127, 255} {
				b := make([]byte, n)
				b[at] = value
				if Zero(b) {
					t.Errorf("%d bytes, of which that at %d is %d", n, at, value)
				}
			}
		}
	}
}

func TestZeroOfBytesOfWhichSeveralAreNot(t *testing.T) {
	for _, b := range []string{"\x01\x01", "\x01\xff", "\x80\x80", "\xff\xff\xff", strings.Repeat("\x01", 256), strings.Repeat("\x01", 65536)} {
		if Zero([]byte(b)) {
			t.Errorf("%d bytes, %x first", len(b), b[0])
		}
	}
}

// P2.2

func TestPickOfAsMany(t *testing.T) {
	for _, n := range lengths {
		a, b := made(n, 7), made(n, 8)
		if p := Pick(true, a, b); !bytes.Equal(p, a) {
			t.Errorf("the first of %d bytes: %d", n, len(p))
		}
		if p := Pick(false, a, b); !bytes.Equal(p, b) {
			t.Errorf("the second of %d bytes: %d", n, len(p))
		}
	}
}

func TestPickOfEachPairOfBytes(t *testing.T) {
	for a := range 256 {
		for b := range 256 {
			first, second := Pick(true, []byte{byte(a)}, []byte{byte(b)}), Pick(false, []byte{byte(a)}, []byte{byte(b)})
			if string(first) != string([]byte{byte(a)}) || string(second) != string([]byte{byte(b)}) {
				t.Errorf("%d, %d: %v, %v", a, b, first, second)
			}
		}
	}
}

func TestPickOfNotAsMany(t *testing.T) {
	for _, first := range []bool{true, false} {
		for _, x := range []struct{ a, b string }{{"", "a"}, {"a", ""}, {"abc", "ab"}, {"ab", "abc"}, {"\x00", "\x00\x00"}, {"abc", strings.Repeat("x", 259)}} {
			if p := Pick(first, []byte(x.a), []byte(x.b)); len(p) != 0 {
				t.Errorf("%v of %q and %q: %q", first, x.a, x.b, p)
			}
		}
		if len(Pick(first, nil, []byte("a"))) != 0 || len(Pick(first, []byte("a"), nil)) != 0 || len(Pick(first, nil, []byte{})) != 0 || len(Pick(first, nil, nil)) != 0 {
			t.Errorf("%v of nil", first)
		}
	}
}

func TestXorOfEachPairOfBytes(t *testing.T) {
	for a := range 256 {
		for b := range 256 {
			both := Xor([]byte{byte(a)}, []byte{byte(b)})
			if len(both) != 1 {
				t.Fatalf("%d, %d: %v", a, b, both)
			}
			for bit := range 8 {
				if want := a>>bit&1 != b>>bit&1; want != (both[0]>>bit&1 == 1) {
					t.Errorf("%d, %d: %d", a, b, both[0])
				}
			}
		}
	}
}

func TestXorOfEachPlaceThatBothHave(t *testing.T) {
	for _, x := range []struct{ a, b, want string }{
		{"\x01\x02\x03", "\x03\x02", "\x02\x00"},
		{"\x03\x02", "\x01\x02\x03", "\x02\x00"},
		{"\xff\x0f", "\x0f\x0f\x01", "\xf0\x00"},
		{"", "", ""},
		{"abc", "", ""},
		{"", "abc", ""},
		{"abc", "\x00\x00\x00\x00", "abc"},
		{"a", "aaaa", "\x00"},
	} {
		if got := Xor([]byte(x.a), []byte(x.b)); string(got) != x.want {
			t.Errorf("%q and %q: %q, wanted %q", x.a, x.b, got, x.want)
		}
	}
	if len(Xor(nil, nil)) != 0 || len(Xor(nil, []byte("a"))) != 0 || len(Xor([]byte("a"), nil)) != 0 {
		t.Error("nil")
	}
}

func TestXorOfManyBytes(t *testing.T) {
	for _, n := range lengths {
		for _, m := range lengths {
			a, b := made(n, 11), made(m, 12)
			got := Xor(a, b)
			if len(got) != min(n, m) {
				t.Fatalf("%d and %d bytes: %d", n, m, len(got))
			}
			for i, x := range got {
				if x != a[i]&^b[i]|b[i]&^a[i] {
					t.Fatalf("%d and %d bytes, at %d: %d", n, m, i, x)
				}
			}
		}
	}
}

// P2.3

// follows asks of a and b all that the chapter says follows.
func follows(t *testing.T, a, b []byte) {
	t.Helper()
	both := Xor(a, b)
	asMany, same := len(a) == len(b), bytes.Equal(a, b)
	if Bytes(a, b) != (asMany && Zero(both)) || Bytes(a, b) != same || Bytes(b, a) != same {
		t.Errorf("%x, %x: Bytes %v, Xor %x", a, b, Bytes(a, b), both)
	}
	n := min(len(a), len(b))
	if twice := Xor(both, b); !bytes.Equal(twice, a[:n]) {
		t.Errorf("%x, %x: b twice is %x", a, b, twice)
	}
	if twice := Xor(a, both); !bytes.Equal(twice, b[:n]) {
		t.Errorf("%x, %x: a twice is %x", a, b, twice)
	}
	if !bytes.Equal(both, Xor(b, a)) {
		t.Errorf("%x, %x: not the same from the other side", a, b)
	}
	if self := Xor(a, a); len(self) != len(a) || !Zero(self) {
		t.Errorf("%x with itself: %x", a, self)
	}
	first, second := Pick(true, a, b), Pick(false, a, b)
	if asMany && !(Bytes(first, a) && Bytes(second, b)) || !asMany && len(first)+len(second) > 0 {
		t.Errorf("%x, %x: %x, %x", a, b, first, second)
	}
}

func TestWhatFollowsOfFewBytes(t *testing.T) {
	few := [][]byte{nil, {}}
	for x := range 4 {
		few = append(few, []byte{byte(x * 85)})
		for y := range 4 {
			few = append(few, []byte{byte(x * 85), byte(y * 85)}, []byte{byte(x * 85), 0, byte(y * 85)})
		}
	}
	for _, a := range few {
		for _, b := range few {
			follows(t, a, b)
		}
	}
}

func TestWhatFollowsOfManyBytes(t *testing.T) {
	for _, n := range lengths {
		a := made(n, 20)
		follows(t, a, made(n, 20))
		follows(t, a, made(n, 21))
		follows(t, a, append(made(n, 20), 0))
		follows(t, a, make([]byte, n))
		for _, at := range places(n) {
			b := bytes.Clone(a)
			b[at] ^= 0x10
			follows(t, a, b)
		}
	}
}

func FuzzWhatFollows(f *testing.F) {
	f.Add([]byte("abc"), []byte("abd"))
	f.Add([]byte{}, []byte{0})
	f.Add([]byte{1, 2, 3}, []byte{3, 2})
	f.Fuzz(func(t *testing.T, a, b []byte) {
		follows(t, a, b)
		follows(t, a, bytes.Clone(a))
		rest := a[min(len(a), len(b)):]
		follows(t, a, append(bytes.Clone(b), rest...)[:len(a)])
		ones := 0
		for _, x := range a {
			ones += bits.OnesCount8(x)
		}
		if Zero(a) != (ones == 0) {
			t.Errorf("Zero of %x", a)
		}
	})
}

// Rules 4 and 8: what is handed in stays as it was, what is handed out is new memory, and what lies behind a length does not count.

// calls answers what each call that hands out bytes makes of a and b.
func calls(a, b []byte) map[string][]byte {
	return map[string][]byte{"the first": Pick(true, a, b), "the second": Pick(false, a, b), "Xor": Xor(a, b)}
}

func TestWhatIsHandedInStaysAsItWas(t *testing.T) {
	for _, x := range []struct{ a, b int }{{0, 0}, {0, 3}, {3, 0}, {3, 3}, {3, 5}, {5, 3}, {8, 8}} {
		whole, other := made(8, 30), made(8, 31)
		keptWhole, keptOther := bytes.Clone(whole), bytes.Clone(other)
		a, b := whole[:x.a], other[:x.b]
		Bytes(a, b)
		Zero(a)
		for _, got := range calls(a, b) {
			fill(got)
		}
		for _, got := range calls(a, a) {
			fill(got)
		}
		if !bytes.Equal(whole, keptWhole) || !bytes.Equal(other, keptOther) {
			t.Errorf("%d and %d bytes: %x, %x", x.a, x.b, whole, other)
		}
	}
}

// fill writes over all of b's memory, its spare room too.
func fill(b []byte) {
	b = b[:cap(b)]
	for i := range b {
		b[i] ^= 0xa5
	}
}

func TestWhatIsHandedOutIsNewMemory(t *testing.T) {
	a, b := made(9, 40), made(9, 41)
	once, again := calls(a, b), calls(a, b)
	want := map[string][]byte{}
	for name, got := range again {
		want[name] = bytes.Clone(got)
	}
	for _, got := range once {
		fill(got)
	}
	for name, got := range again {
		if !bytes.Equal(got, want[name]) {
			t.Errorf("%s shares memory with what was handed out ahead of it", name)
		}
	}
	for name, got := range once {
		fill(got)
		if !bytes.Equal(got, want[name]) {
			t.Errorf("%s shares memory with another", name)
		}
	}
	fill(a)
	fill(b)
	for name, got := range again {
		if !bytes.Equal(got, want[name]) {
			t.Errorf("%s kept what was handed in", name)
		}
	}
}

func TestWhatLiesBehindALengthDoesNotCount(t *testing.T) {
	a, b := []byte("abcX")[:3], []byte("abcYZ")[:3]
	if !Bytes(a, b) || !Zero([]byte{0, 0, 1}[:2]) {
		t.Error("Bytes, Zero")
	}
	for name, got := range calls(a, b) {
		if len(got) != 3 {
			t.Errorf("%s: %q", name, got)
		}
		if !Zero(got[len(got):cap(got)]) {
			t.Errorf("%s: its spare room holds %x", name, got[len(got):cap(got)])
		}
	}
}
