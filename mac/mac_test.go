package mac

import (
	"bytes"
	"crypto/hmac"
	"crypto/sha256"
	"encoding/hex"
	"slices"
	"strings"
	"testing"
)

// made answers so many bytes without a plain order, the same ones for the same seed.
func made(length int, seed byte) []byte {
	b := make([]byte, length)
	state := uint32(seed)*2654435761 + 1
	for i := range b {
		state = state*1664525 + 1013904223
		b[i] = byte(state>>24) ^ seed
	}
	return b
}

// library answers the tag that Go's library makes.
func library(key, msg []byte) []byte {
	h := hmac.New(sha256.New, key)
	h.Write(msg)
	return h.Sum(nil)
}

// unhex answers the bytes that a text of hex digits is.
func unhex(t *testing.T, text string) []byte {
	t.Helper()
	b, err := hex.DecodeString(text)
	if err != nil {
		t.Fatal(err)
	}
	return b
}

// nothings answers the ways in which no bytes may come in.
func nothings() [][]byte {
	return [][]byte{nil, {}, make([]byte, 0, 100), []byte("abc")[:0]}
}

// lengths answers lengths on each side of a block's edges, and far more.
func lengths() []int {
	return []int{0, 1, 2, 20, 31, 32, 33, 54, 55, 56, 57, 63, 64, 65, 66, 118, 119, 120, 127, 128, 129, 131, 200, 1000, 4097, 65536}
}

// P4.1

func TestKeyOfNothing(t *testing.T) {
	for i, none := range nothings() {
		if got := Key(none); !bytes.Equal(got, make([]byte, 64)) {
			t.Errorf("nothing %d: %x", i, got)
		}
	}
}

func TestKeyOfAtMost64Bytes(t *testing.T) {
	for n := range 65 {
		for _, key := range [][]byte{made(n, 1), bytes.Repeat([]byte{255}, n), make([]byte, n)} {
			got := Key(key)
			if len(got) != 64 || !bytes.Equal(got[:n], key) || !bytes.Equal(got[n:], make([]byte, 64-n)) {
				t.Errorf("%x: %x", key, got)
			}
		}
	}
}

func TestKeyOfMoreThan64Bytes(t *testing.T) {
	for _, n := range []int{65, 66, 95, 96, 97, 127, 128, 129, 131, 1000, 65536, 1000000} {
		key := made(n, 2)
		sum := sha256.Sum256(key)
		if got, want := Key(key), slices.Concat(sum[:], make([]byte, 32)); !bytes.Equal(got, want) {
			t.Errorf("%d bytes: %x, wanted %x", n, got, want)
		}
	}
}

// The edge by written bytes: 63 and 64 stay, 65 are summed.
func TestKeyAround64Bytes(t *testing.T) {
	a := func(n int) []byte { return []byte(strings.Repeat("a", n)) }
	if got := Key(a(63)); string(got) != strings.Repeat("a", 63)+"\x00" {
		t.Errorf("63: %x", got)
	}
	if got := Key(a(64)); string(got) != strings.Repeat("a", 64) {
		t.Errorf("64: %x", got)
	}
	want := "635361c48bb9eab14198e76ea8ab7f1a41685d6ad62aa9146d301d4f17eb0ae0" + strings.Repeat("00", 32)
	if got := Key(a(65)); hex.EncodeToString(got) != want {
		t.Errorf("65: %x", got)
	}
}

// A Key is a key of 64 bytes, so it stays as it is.
func TestKeyOfAKey(t *testing.T) {
	for _, n := range lengths() {
		once := Key(made(n, 3))
		if again := Key(once); !bytes.Equal(again, once) {
			t.Errorf("%d bytes: %x, then %x", n, once, again)
		}
	}
}

// P4.2

// The chapter's example, and the test cases of RFC 4231 (but for that which cuts its tag).
func TestSumOfKnownTexts(t *testing.T) {
	for i, x := range []struct {
		key       []byte
		msg, want string
	}{
		{bytes.Repeat([]byte{11}, 20), "Hi There", "b0344c61d8db38535ca8afceaf0bf12b881dc200c9833da726e9376c2e32cff7"},
		{[]byte("Jefe"), "what do ya want for nothing?", "5bdcc146bf60754e6a042426089575c75a003f089d2739839dec58b964ec3843"},
		{bytes.Repeat([]byte{0xaa}, 20), strings.Repeat("\xdd", 50), "773ea91e36800e46854db8ebd09181a72959098b3ef8c122d9635514ced565fe"},
		{unhex(t, "0102030405060708090a0b0c0d0e0f10111213141516171819"), strings.Repeat("\xcd", 50), "82558a389a443c0ea4cc819899f2083a85f0faa3e578f8077a2e3ff46729665b"},
		{bytes.Repeat([]byte{0xaa}, 131), "Test Using Larger Than Block-Size Key - Hash Key First", "60e431591ee0b67f0d8a26aacbf5b77f8e0bc6213728c5140546040f0ee37f54"},
		{bytes.Repeat([]byte{0xaa}, 131), "This is a test using a larger than block-size key and a larger than block-size data. The key needs to be hashed before being used by the HMAC algorithm.", "9b09ffa71b942fcb27635fbcd5b0e944bfdc63644f0713938a7f51535c3a35e2"},
	} {
		want, msg := unhex(t, x.want), []byte(x.msg)
		if got := Sum(x.key, msg); !bytes.Equal(got, want) {
			t.Errorf("%d: %x, wanted %x", i, got, want)
		}
		if got := Parts(x.key, msg); !bytes.Equal(got, want) {
			t.Errorf("%d, as one part: %x, wanted %x", i, got, want)
		}
		if !Check(x.key, msg, want) {
			t.Errorf("%d: Check denies it", i)
		}
	}
}

// Sum by the chapter's words, each step written out.
func TestSumByTheChaptersWords(t *testing.T) {
	for _, n := range lengths() {
		key, msg := made(n, 4), made(70, 5)
		inside, outside := Key(key), Key(key)
		for i := range 64 {
			inside[i] ^= 54
			outside[i] ^= 92
		}
		within := sha256.Sum256(slices.Concat(inside, msg))
		want := sha256.Sum256(slices.Concat(outside, within[:]))
		if got := Sum(key, msg); !bytes.Equal(got, want[:]) {
			t.Errorf("a key of %d bytes: %x, wanted %x", n, got, want)
		}
	}
}

func TestSumOfNothing(t *testing.T) {
	const want = "b613679a0814d9ec772f95d778c35fc5ff1697c493715653c6c712144292c5ad"
	for i, key := range nothings() {
		for j, msg := range nothings() {
			tag := Sum(key, msg)
			if hex.EncodeToString(tag) != want {
				t.Errorf("nothings %d and %d: %x", i, j, tag)
			}
			if !Check(key, msg, tag) {
				t.Errorf("nothings %d and %d: Check denies it", i, j)
			}
		}
	}
}

func TestSumWithASideThatIsEmpty(t *testing.T) {
	for _, none := range nothings() {
		for _, n := range lengths() {
			b := made(n, 6)
			for _, x := range [][2][]byte{{none, b}, {b, none}} {
				key, msg := x[0], x[1]
				want := library(key, msg)
				if got := Sum(key, msg); !bytes.Equal(got, want) {
					t.Errorf("%d and %d bytes: %x, wanted %x", len(key), len(msg), got, want)
				}
				if !Check(key, msg, want) {
					t.Errorf("%d and %d bytes: Check denies it", len(key), len(msg))
				}
			}
		}
	}
}

func TestSumOfAnyLength(t *testing.T) {
	for _, n := range lengths() {
		for _, m := range lengths() {
			key, msg := made(n, 7), made(m, 8)
			want := library(key, msg)
			if got := Sum(key, msg); !bytes.Equal(got, want) {
				t.Errorf("%d and %d bytes: %x, wanted %x", n, m, got, want)
			}
			if !Check(key, msg, want) {
				t.Errorf("%d and %d bytes: Check denies it", n, m)
			}
		}
	}
}

// The key and the text have places of their own.
func TestSumKeepsTheOrder(t *testing.T) {
	if bytes.Equal(Sum([]byte("a"), []byte("b")), Sum([]byte("b"), []byte("a"))) {
		t.Error("a and b may be swapped")
	}
	if bytes.Equal(Sum([]byte("a"), []byte("bc")), Sum([]byte("ab"), []byte("c"))) {
		t.Error("the cut does not count")
	}
}

func TestPartsOfNone(t *testing.T) {
	for _, n := range lengths() {
		key := made(n, 9)
		want := library(key, nil)
		for i, got := range [][]byte{Parts(key), Parts(key, nil...), Parts(key, [][]byte{}...)} {
			if !bytes.Equal(got, want) {
				t.Errorf("a key of %d bytes, none %d: %x, wanted %x", n, i, got, want)
			}
		}
	}
}

func TestPartsThatAreEmpty(t *testing.T) {
	key, msg := []byte("key"), made(100, 10)
	none := library(key, nil)
	if got := Parts(key, nothings()...); !bytes.Equal(got, none) {
		t.Errorf("empty ones alone: %x, wanted %x", got, none)
	}
	want := library(key, msg)
	for i, empty := range nothings() {
		for name, got := range map[string][]byte{
			"ahead":   Parts(key, empty, msg),
			"behind":  Parts(key, msg, empty),
			"between": Parts(key, msg[:7], empty, msg[7:]),
			"all":     Parts(key, empty, msg[:7], empty, empty, msg[7:], empty),
			"alone":   Parts(key, msg),
		} {
			if !bytes.Equal(got, want) {
				t.Errorf("nothing %d, %s: %x, wanted %x", i, name, got, want)
			}
		}
	}
}

func TestPartsAtEachCut(t *testing.T) {
	for _, n := range []int{0, 1, 2, 55, 56, 63, 64, 65, 128, 200} {
		key, msg := made(33, 11), made(n, 12)
		want := library(key, msg)
		for at := range n + 1 {
			if got := Parts(key, msg[:at], msg[at:]); !bytes.Equal(got, want) {
				t.Errorf("%d bytes, cut at %d: %x, wanted %x", n, at, got, want)
			}
			rest := at + (n-at)/2
			if got := Parts(key, msg[:at], msg[at:rest], msg[rest:]); !bytes.Equal(got, want) {
				t.Errorf("%d bytes, cut at %d and %d: %x, wanted %x", n, at, rest, got, want)
			}
		}
	}
}

func TestPartsOfMany(t *testing.T) {
	key, msg := made(70, 13), made(5000, 14)
	for _, size := range []int{1, 2, 63, 64, 65, 1000} {
		parts := slices.Collect(slices.Chunk(msg, size))
		if got, want := Parts(key, parts...), library(key, msg); !bytes.Equal(got, want) {
			t.Errorf("%d parts: %x, wanted %x", len(parts), got, want)
		}
	}
}

func TestPartsKeepTheOrder(t *testing.T) {
	key, a, b := []byte("key"), []byte("ab"), []byte("cde")
	if got := Parts(key, a, b, a); !bytes.Equal(got, library(key, []byte("abcdeab"))) {
		t.Errorf("a, b, a: %x", got)
	}
	if got := Parts(key, b, a); !bytes.Equal(got, library(key, []byte("cdeab"))) {
		t.Errorf("b, a: %x", got)
	}
}

func TestCheckOfATagThatIsTooShortOrTooLong(t *testing.T) {
	for _, n := range []int{0, 3, 64, 65} {
		key, msg := made(n, 15), made(40, 16)
		tag := Sum(key, msg)
		for short := range tag {
			if Check(key, msg, tag[:short]) {
				t.Errorf("a key of %d bytes: the first %d bytes of a tag are one", n, short)
			}
			if Check(key, msg, tag[len(tag)-short:]) {
				t.Errorf("a key of %d bytes: the last %d bytes of a tag are one", n, short)
			}
		}
		for _, long := range [][]byte{slices.Concat(tag, []byte{0}), slices.Concat([]byte{0}, tag), slices.Concat(tag, tag), slices.Concat(tag, make([]byte, 256-len(tag))), slices.Concat(tag, make([]byte, 256))} {
			if Check(key, msg, long) {
				t.Errorf("a key of %d bytes: %d bytes are a tag", n, len(long))
			}
		}
		for i, none := range nothings() {
			if Check(key, msg, none) {
				t.Errorf("a key of %d bytes: nothing %d is a tag", n, i)
			}
		}
	}
}

func TestCheckOfNothingOnEitherSide(t *testing.T) {
	b, zero := []byte("b"), make([]byte, 32)
	for _, none := range nothings() {
		for _, x := range [][2][]byte{{none, none}, {none, b}, {b, none}} {
			if Check(x[0], x[1], none) || Check(x[0], x[1], zero) {
				t.Errorf("%q, %q: no tag, or noughts, are one", x[0], x[1])
			}
		}
		if Check(none, none, library(none, b)) || Check(none, b, library(none, none)) || Check(b, none, library(none, b)) {
			t.Errorf("the tag of others")
		}
	}
}

// A tag is the tag of its own text under its own key alone.
func TestCheckOfAnothersTag(t *testing.T) {
	key, msg := made(32, 17), made(50, 18)
	tag := Sum(key, msg)
	for i := range key {
		other := bytes.Clone(key)
		other[i] ^= 1
		if Check(other, msg, tag) {
			t.Errorf("another key, at %d", i)
		}
	}
	for i := range msg {
		other := bytes.Clone(msg)
		other[i] ^= 128
		if Check(key, other, tag) {
			t.Errorf("another text, at %d", i)
		}
	}
	if Check(key, msg[1:], tag) || Check(key, msg[:49], tag) || Check(key, slices.Concat(msg, []byte{0}), tag) || Check(msg, key, tag) {
		t.Error("a text of another length, or the sides swapped")
	}
	within := sha256.Sum256(slices.Concat(key, msg))
	if Check(key, msg, within[:]) {
		t.Error("a plain sum")
	}
}

// P4.3

// follows asks of a key and a text all that the chapter says follows.
func follows(t *testing.T, key, msg []byte) {
	t.Helper()
	tag := Sum(key, msg)
	if len(tag) != 32 || len(Parts(key, msg, msg)) != 32 || len(Parts(key)) != 32 {
		t.Fatalf("%d and %d bytes: a tag of %d", len(key), len(msg), len(tag))
	}
	if !Check(key, msg, tag) {
		t.Errorf("%x, %x: Check denies %x", key, msg, tag)
	}
	for i := range tag {
		for _, change := range []byte{1, 128, 255} {
			tag[i] ^= change
			if Check(key, msg, tag) {
				t.Errorf("%x, %x: with byte %d changed by %d it is still one", key, msg, i, change)
			}
			tag[i] ^= change
		}
	}
	for _, twin := range twins(key) {
		if !bytes.Equal(Key(twin), Key(key)) {
			t.Errorf("%x and %x have not one Key", key, twin)
		}
		if got := Sum(twin, msg); !bytes.Equal(got, tag) {
			t.Errorf("%x and %x: %x and %x", key, twin, tag, got)
		}
		if got := Parts(twin, msg[:len(msg)/2], msg[len(msg)/2:]); !bytes.Equal(got, tag) {
			t.Errorf("%x and %x, in parts: %x and %x", key, twin, tag, got)
		}
		if !Check(twin, msg, tag) {
			t.Errorf("%x and %x: Check denies the one's tag under the other", key, twin)
		}
	}
}

// twins answers keys that have the same Key: with bytes 0 behind, or, of a long key, its sum, and that with bytes 0 behind.
func twins(key []byte) [][]byte {
	if len(key) > 64 {
		sum := sha256.Sum256(key)
		key = sum[:]
	}
	all := [][]byte{key, Key(key)}
	for n := len(key); n <= 64; n++ {
		all = append(all, slices.Concat(key, make([]byte, n-len(key))))
	}
	return all
}

func TestWhatFollows(t *testing.T) {
	follows(t, nil, nil)
	for _, n := range lengths() {
		follows(t, made(n, 19), made(45, 20))
		follows(t, made(30, 21), made(n, 22))
	}
}

// A byte 0 behind a key of 64 bytes makes it a longer one, and so does one behind a key of more: their Keys differ.
func TestBytes0BehindALongKeyCount(t *testing.T) {
	msg := []byte("text")
	for _, n := range []int{64, 65, 66, 128, 131} {
		key := made(n, 23)
		longer := slices.Concat(key, []byte{0})
		if bytes.Equal(Key(key), Key(longer)) || bytes.Equal(Sum(key, msg), Sum(longer, msg)) || Check(longer, msg, Sum(key, msg)) {
			t.Errorf("%d bytes", n)
		}
	}
}

// Keys with other Keys have other tags: a byte 0 ahead, and one that is not 0 behind.
func TestKeysThatHaveNotOneKey(t *testing.T) {
	key, msg := []byte("key"), []byte("text")
	for _, other := range [][]byte{[]byte("\x00key"), []byte("key\x01"), []byte("ke"), []byte("Key"), slices.Concat(Key(key)[:63], []byte{1})} {
		if bytes.Equal(Key(key), Key(other)) || bytes.Equal(Sum(key, msg), Sum(other, msg)) {
			t.Errorf("%x", other)
		}
	}
}

func FuzzWhatFollows(f *testing.F) {
	f.Add([]byte("Jefe"), []byte("what do ya want for nothing?"), []byte{}, 4)
	f.Add([]byte{}, []byte{}, []byte{}, 0)
	f.Add(made(65, 1), made(130, 2), made(32, 3), 64)
	f.Fuzz(func(t *testing.T, key, msg, tag []byte, at int) {
		follows(t, key, msg)
		want := library(key, msg)
		if got := Sum(key, msg); !bytes.Equal(got, want) {
			t.Errorf("%x, %x: %x, wanted %x", key, msg, got, want)
		}
		at = max(0, min(at, len(msg)))
		if got := Parts(key, msg[:at], nil, msg[at:]); !bytes.Equal(got, want) {
			t.Errorf("%x, %x, cut at %d: %x, wanted %x", key, msg, at, got, want)
		}
		if Check(key, msg, tag) != bytes.Equal(tag, want) {
			t.Errorf("%x, %x: Check of %x, wanted of %x", key, msg, tag, want)
		}
	})
}

// Rules 4, 5 and 8: what is handed in stays as it was, what is handed out is new memory, what lies behind a length does not count, and nothing is kept.

// calls answers what each call that hands out bytes makes of a key and parts.
func calls(key, a, b []byte) map[string][]byte {
	return map[string][]byte{"Key": Key(key), "Sum": Sum(key, a), "Parts": Parts(key, a, b, a), "one part": Parts(key, a), "no part": Parts(key)}
}

// fill writes over all of b's memory, its spare room too.
func fill(b []byte) {
	b = b[:cap(b)]
	for i := range b {
		b[i] ^= 0xa5
	}
}

func TestWhatIsHandedInStaysAsItWas(t *testing.T) {
	for _, n := range []int{0, 1, 31, 32, 63, 64, 65, 128, 129} {
		wholes := [][]byte{made(300, 24), made(300, 25), made(300, 26), made(300, 27)}
		var kept [][]byte
		for _, whole := range wholes {
			kept = append(kept, bytes.Clone(whole))
		}
		key, a, b := wholes[0][:n], wholes[1][:200-n], wholes[2][:n/2]
		Check(key, a, wholes[3][:32])
		Check(key, a, wholes[3][:n])
		for _, got := range calls(key, a, b) {
			fill(got)
		}
		for _, got := range calls(key, key, key) {
			fill(got)
		}
		for i, whole := range wholes {
			if !bytes.Equal(whole, kept[i]) {
				t.Errorf("%d bytes: argument %d: %x, was %x", n, i, whole, kept[i])
			}
		}
	}
}

// A right tag stays as it was, too: its spare room, and what stands around it.
func TestTheTagThatIsCheckedStaysAsItWas(t *testing.T) {
	key, msg := []byte("key"), []byte("text")
	whole := slices.Concat(made(5, 28), Sum(key, msg), made(5, 29))
	kept := bytes.Clone(whole)
	if !Check(key, msg, whole[5:37]) || Check(key, msg, whole[4:36]) || Check(key, msg, whole[5:38]) {
		t.Error("Check errs")
	}
	if !bytes.Equal(whole, kept) {
		t.Errorf("%x, was %x", whole, kept)
	}
}

// The list of the parts is the caller's as well: it stays, with its spare room.
func TestTheListOfPartsStaysAsItWas(t *testing.T) {
	key := []byte("key")
	parts := [][]byte{made(10, 30), nil, made(64, 31), {}, made(3, 32), made(8, 33)}
	kept := make([][]byte, len(parts))
	for i, part := range parts {
		kept[i] = bytes.Clone(part)
	}
	for n := range len(parts) + 1 {
		want := library(key, slices.Concat(parts[:n]...))
		if got := Parts(key, parts[:n]...); !bytes.Equal(got, want) {
			t.Errorf("%d parts: %x, wanted %x", n, got, want)
		}
		for i, part := range parts {
			if !bytes.Equal(part, kept[i]) || (part == nil) != (kept[i] == nil) {
				t.Errorf("%d parts: part %d is %x, was %x", n, i, part, kept[i])
			}
		}
	}
}

func TestWhatIsHandedOutIsNewMemory(t *testing.T) {
	for _, n := range []int{0, 3, 32, 63, 64, 65, 100} {
		key, a, b := made(n, 34), made(70, 35), made(n, 36)
		once, again := calls(key, a, b), calls(key, a, b)
		want := map[string][]byte{}
		for name, got := range again {
			want[name] = bytes.Clone(got)
		}
		for _, got := range once {
			fill(got)
		}
		for name, got := range again {
			if !bytes.Equal(got, want[name]) {
				t.Errorf("%s, a key of %d bytes: shares memory with what was handed out ahead of it", name, n)
			}
		}
		for name, got := range once {
			fill(got)
			if !bytes.Equal(got, want[name]) {
				t.Errorf("%s, a key of %d bytes: shares memory with another", name, n)
			}
		}
		for _, in := range [][]byte{key, a, b} {
			fill(in)
		}
		for name, got := range again {
			if !bytes.Equal(got, want[name]) {
				t.Errorf("%s, a key of %d bytes: kept what was handed in", name, n)
			}
		}
	}
}

func TestWhatLiesBehindALengthDoesNotCount(t *testing.T) {
	for _, n := range []int{0, 3, 32, 55, 63, 64, 65} {
		whole, other := made(200, 37), made(200, 37)
		for i := n; i < len(other); i++ {
			other[i] ^= 0xff
		}
		a, b := whole[:n], other[:n]
		want := calls(a, a, a)
		for name, got := range calls(b, b, b) {
			if !bytes.Equal(got, want[name]) {
				t.Errorf("%s of %d bytes: %x, wanted %x", name, n, got, want[name])
			}
			if spare := got[len(got):cap(got)]; len(bytes.Trim(spare, "\x00")) != 0 {
				t.Errorf("%s of %d bytes: its spare room holds %x", name, n, spare)
			}
		}
		if !Check(b, b, Sum(a, a)) {
			t.Errorf("Check of %d bytes", n)
		}
	}
	tag := Sum([]byte("key"), []byte("text"))
	if Check([]byte("key"), []byte("text"), tag[:31]) || Check([]byte("key"), []byte("text"), tag[:0]) {
		t.Error("Check reads what lies behind a tag's length")
	}
}
