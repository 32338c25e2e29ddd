package derive

import (
	"bytes"
	"crypto/hkdf"
	"crypto/hmac"
	"crypto/sha256"
	"encoding/hex"
	"math"
	"slices"
	"strings"
	"testing"

	"carcanet/api"
)

// made answers so many bytes without a plain order, the same ones for the same seed.
func made(length int, seed byte) []byte {
	b := make([]byte, length)
	state := uint32(seed)*2654435761 + 1
	for i := range b {
		state = state*1664525 + 1013904223
		b[i] = byte(state>>24) ^ seed
	}
	return b
}

// unhex answers the bytes that a text of hex digits is.
func unhex(t *testing.T, text string) []byte {
	t.Helper()
	b, err := hex.DecodeString(text)
	if err != nil {
		t.Fatal(err)
	}
	return b
}

// rising answers the bytes from the first one on, up to the last.
func rising(first, last int) []byte {
	var b []byte
	for i := first; i <= last; i++ {
		b = append(b, byte(i))
	}
	return b
}

// nothings answers the ways in which no bytes may come in.
func nothings() [][]byte {
	return [][]byte{nil, {}, make([]byte, 0, 100), []byte("abc")[:0]}
}

// lengths answers lengths of keys and texts on each side of the edges that a sum and a block have.
func lengths() []int {
	return []int{0, 1, 13, 31, 32, 33, 55, 56, 63, 64, 65, 80, 119, 128, 1000}
}

// sizes answers numbers of bytes to be made, at the edges of a block and of all that a key makes.
func sizes() []int {
	return []int{0, 1, 2, 31, 32, 33, 42, 63, 64, 65, 95, 96, 97, 4096, 8127, 8128, 8129, 8159, 8160}
}

// refused answers numbers of bytes that no key makes; some of them are in range if only their lowest bits count.
func refused() []int {
	return []int{
		-1, -2, -31, -32, -33, -8160, -8161, -1 << 16, -1<<31 + 32, -1 << 31, math.MinInt + 32, math.MinInt + 1, math.MinInt,
		8161, 8162, 8191, 8192, 8193, 8224, 16320, 1 << 16, 1<<16 + 32, 1<<31 - 1, math.MaxInt - 31, math.MaxInt - 1, math.MaxInt,
	}
}

// tag answers the tag that Go's library makes of all parts.
func tag(key []byte, parts ...[]byte) []byte {
	h := hmac.New(sha256.New, key)
	for _, part := range parts {
		h.Write(part)
	}
	return h.Sum(nil)
}

// blocks answers t1 up to t255, one behind the other, each made by the chapter's words.
func blocks(key, info []byte) []byte {
	t := tag(key, info, []byte{1})
	all := bytes.Clone(t)
	for i := 2; i <= 255; i++ {
		t = tag(key, t, info, []byte{byte(i)})
		all = append(all, t...)
	}
	return all
}

// expand answers what Expand makes, of a number of bytes that must not be refused.
func expand(t *testing.T, key, info []byte, n int) []byte {
	t.Helper()
	b, e := Expand(key, info, n)
	if e != api.OK || len(b) != n {
		t.Fatalf("Expand of %d: %d bytes, error %d", n, len(b), e)
	}
	return b
}

// key answers what Key makes, of a number of bytes that must not be refused.
func key(t *testing.T, salt, secret, info []byte, n int) []byte {
	t.Helper()
	b, e := Key(salt, secret, info, n)
	if e != api.OK || len(b) != n {
		t.Fatalf("Key of %d: %d bytes, error %d", n, len(b), e)
	}
	return b
}

// known is a case of RFC 5869 (of those with these sums): what comes in, the key that is extracted, and the bytes that are made of it.
type known struct {
	secret, salt, info []byte
	extracted, made    string
}

func knowns() []known {
	return []known{
		{bytes.Repeat([]byte{11}, 22), rising(0, 12), rising(0xf0, 0xf9), "077709362c2e32df0ddc3f0dc47bba6390b6c73bb50f9c3122ec844ad7c2b3e5", "3cb25f25faacd57a90434f64d0362f2a2d2d0a90cf1a5a4c5db02d56ecc4c5bf34007208d5b887185865"},
		{rising(0, 0x4f), rising(0x60, 0xaf), rising(0xb0, 0xff), "06a6b88c5853361a06104c9ceb35b45cef760014904671014a193f40c15fc244", "b11e398dc80327a1c8e7f78c596a49344f012eda2d4efad8a050cc4c19afa97c59045a99cac7827271cb41c65e590e09da3275600c2f09b8367793a9aca3db71cc30c58179ec3e87c14c01d5c1f3434f1d87"},
		{bytes.Repeat([]byte{11}, 22), nil, nil, "19ef24a32c717b167f33a91d6f648bdf96596776afdb6377ac434c1c293ccb04", "8da4e775a563c18f715f802a063c5a31b8a11f5c5ee1879ec3454e5f3c738d2d9d201395faa4b61a96c8"},
	}
}

func TestKnownTexts(t *testing.T) {
	for i, x := range knowns() {
		extracted, want := unhex(t, x.extracted), unhex(t, x.made)
		if got := Extract(x.salt, x.secret); !bytes.Equal(got, extracted) {
			t.Errorf("%d: Extract: %x, wanted %x", i, got, extracted)
		}
		if got := expand(t, extracted, x.info, len(want)); !bytes.Equal(got, want) {
			t.Errorf("%d: Expand: %x, wanted %x", i, got, want)
		}
		if got := key(t, x.salt, x.secret, x.info, len(want)); !bytes.Equal(got, want) {
			t.Errorf("%d: Key: %x, wanted %x", i, got, want)
		}
	}
}

// P5.1

func TestExtractOfAnyLength(t *testing.T) {
	for _, n := range lengths() {
		for _, m := range lengths() {
			salt, secret := made(n, 1), made(m, 2)
			want, err := hkdf.Extract(sha256.New, secret, salt)
			if err != nil {
				t.Fatal(err)
			}
			if got := Extract(salt, secret); !bytes.Equal(got, want) {
				t.Errorf("%d and %d bytes: %x, wanted %x", n, m, got, want)
			}
			if n > 0 && !bytes.Equal(want, tag(salt, secret)) {
				t.Errorf("%d and %d bytes: the library's is not the tag under the salt", n, m)
			}
		}
	}
}

func TestExtractWithASaltOfNoBytes(t *testing.T) {
	for i, none := range nothings() {
		for _, n := range lengths() {
			secret := made(n, 3)
			want := tag(make([]byte, 32), secret)
			if got := Extract(none, secret); !bytes.Equal(got, want) {
				t.Errorf("nothing %d, a secret of %d bytes: %x, wanted %x", i, n, got, want)
			}
			if got := Extract(make([]byte, 32), secret); !bytes.Equal(got, want) {
				t.Errorf("32 bytes 0, a secret of %d bytes: %x, wanted %x", n, got, want)
			}
		}
		if got := hex.EncodeToString(Extract(none, []byte("secret"))); got != "1810e8d341b9e61e88895fba0b1aa2bd03cb6c8fff2b368e666ef8efdef5b4fb" {
			t.Errorf("nothing %d, secret: %s", i, got)
		}
		for j, secret := range nothings() {
			if got := hex.EncodeToString(Extract(none, secret)); got != "b613679a0814d9ec772f95d778c35fc5ff1697c493715653c6c712144292c5ad" {
				t.Errorf("nothings %d and %d: %s", i, j, got)
			}
		}
	}
}

// A salt that has bytes is taken as it is, whatever they are.
func TestExtractWithASaltOfBytes(t *testing.T) {
	secret := []byte("secret")
	for _, salt := range [][]byte{{0}, {1}, make([]byte, 31), make([]byte, 33), make([]byte, 64), make([]byte, 65), slices.Concat(make([]byte, 31), []byte{1}), bytes.Repeat([]byte{255}, 32)} {
		want := tag(salt, secret)
		if got := Extract(salt, secret); !bytes.Equal(got, want) {
			t.Errorf("%x: %x, wanted %x", salt, got, want)
		}
	}
	for _, salt := range [][]byte{{1}, make([]byte, 65), slices.Concat(make([]byte, 31), []byte{1})} {
		if bytes.Equal(Extract(salt, secret), Extract(nil, secret)) {
			t.Errorf("%x: the same as no salt", salt)
		}
	}
}

func TestExtractTellsTheSaltFromTheSecret(t *testing.T) {
	a, b := []byte("a"), []byte("b")
	if bytes.Equal(Extract(a, b), Extract(b, a)) || bytes.Equal(Extract(a, []byte("bc")), Extract([]byte("ab"), []byte("c"))) {
		t.Error("the sides may be swapped, or the cut does not count")
	}
}

// P5.2

func TestMost(t *testing.T) {
	if Most != 8160 {
		t.Errorf("%d", Most)
	}
}

func TestExpandByTheChaptersWords(t *testing.T) {
	for _, n := range lengths() {
		for _, x := range [][2][]byte{{made(n, 4), made(10, 5)}, {made(32, 6), made(n, 7)}} {
			all := blocks(x[0], x[1])
			for _, size := range sizes() {
				if got := expand(t, x[0], x[1], size); !bytes.Equal(got, all[:size]) {
					t.Errorf("a key of %d bytes, info of %d, of %d: it goes astray at %d", len(x[0]), len(x[1]), size, astray(got, all))
				}
			}
		}
	}
}

// astray answers the first place at which got is not what all begins with.
func astray(got, all []byte) int {
	for i := range got {
		if i >= len(all) || got[i] != all[i] {
			return i
		}
	}
	return len(got)
}

func TestExpandOfAllThatAKeyMakes(t *testing.T) {
	got := expand(t, []byte("key"), []byte("info"), Most)
	sum := sha256.Sum256(got)
	if hex.EncodeToString(sum[:]) != "ab0a5bd31f7c48c53f85648c9b53fab168a312f8431983e5effa2806da168814" {
		t.Errorf("the sum of all is %x", sum)
	}
	if last := hex.EncodeToString(got[8128:]); last != "aac93a0e232e0a66e3b5eeea8026bcefba391ea4e999c937cbf8c19275594470" {
		t.Errorf("the last block is %s", last)
	}
	if want := tag([]byte("key"), got[8096:8128], []byte("info"), []byte{255}); !bytes.Equal(got[8128:], want) {
		t.Errorf("the last block is %x, wanted %x", got[8128:], want)
	}
}

func TestExpandOfNothing(t *testing.T) {
	const want = "3d7afb663124ecbf2c953f863d4fc8796eeb2d372b64aad58697ec5264649cdb8eb20d0e5acf7134b680fd516e14798b43533b5a5d1b99b38d743eb401907405"
	for i, none := range nothings() {
		for j, info := range nothings() {
			if got := hex.EncodeToString(expand(t, none, info, 64)); got != want {
				t.Errorf("nothings %d and %d: %s", i, j, got)
			}
			if b, e := Expand(none, info, 0); len(b) != 0 || e != api.OK {
				t.Errorf("nothings %d and %d, of 0: %x, %d", i, j, b, e)
			}
		}
	}
}

func TestInfoOfNoBytes(t *testing.T) {
	for i, none := range nothings() {
		for _, n := range []int{1, 32, 33, 97} {
			want, err := hkdf.Expand(sha256.New, []byte("key"), "", n)
			if err != nil {
				t.Fatal(err)
			}
			if got := expand(t, []byte("key"), none, n); !bytes.Equal(got, want) {
				t.Errorf("nothing %d, of %d: %x, wanted %x", i, n, got, want)
			}
			want = blocks(tag([]byte("salt"), []byte("secret")), nil)[:n]
			if got := key(t, []byte("salt"), []byte("secret"), none, n); !bytes.Equal(got, want) {
				t.Errorf("nothing %d, Key of %d: %x, wanted %x", i, n, got, want)
			}
		}
	}
}

// The key, the info and the one byte have places of their own: other ones make other bytes, from the first block on.
func TestExpandTellsItsPartsApart(t *testing.T) {
	base := expand(t, []byte("key"), []byte("info"), 64)
	for i, other := range [][]byte{
		expand(t, []byte("info"), []byte("key"), 64),
		expand(t, []byte("keyi"), []byte("nfo"), 64),
		expand(t, []byte("kez"), []byte("info"), 64),
		expand(t, []byte("key"), []byte("infp"), 64),
		expand(t, []byte("key"), []byte("info\x00"), 64),
		expand(t, []byte("key"), []byte("info\x01"), 64),
		expand(t, []byte("key"), nil, 64),
	} {
		if bytes.Equal(base[:32], other[:32]) || bytes.Equal(base[32:], other[32:]) {
			t.Errorf("%d: a block is the same", i)
		}
	}
}

func TestOfNoBytesThereAreNone(t *testing.T) {
	for _, n := range lengths() {
		a, b := made(n, 8), made(n, 9)
		if got, e := Expand(a, b, 0); len(got) != 0 || e != api.OK {
			t.Errorf("%d bytes: Expand of 0: %x, %d", n, got, e)
		}
		if got, e := Key(a, b, a, 0); len(got) != 0 || e != api.OK {
			t.Errorf("%d bytes: Key of 0: %x, %d", n, got, e)
		}
	}
}

func TestNumbersOfBytesThatAreRefused(t *testing.T) {
	for _, n := range refused() {
		for _, length := range lengths() {
			a, b := made(length, 10), made(length, 11)
			if got, e := Expand(a, b, n); len(got) != 0 || e != api.ErrArg {
				t.Errorf("%d bytes: Expand of %d: %d bytes, error %d", length, n, len(got), e)
			}
			if got, e := Key(a, b, a, n); len(got) != 0 || e != api.ErrArg {
				t.Errorf("%d bytes: Key of %d: %d bytes, error %d", length, n, len(got), e)
			}
		}
		if got, e := Expand(nil, nil, n); len(got) != 0 || e != api.ErrArg {
			t.Errorf("nothing: Expand of %d: %d bytes, error %d", n, len(got), e)
		}
		if got, e := Key(nil, nil, nil, n); len(got) != 0 || e != api.ErrArg {
			t.Errorf("nothing: Key of %d: %d bytes, error %d", n, len(got), e)
		}
	}
}

// A refused call leaves nothing behind: the next one answers what it would have.
func TestARefusedCallChangesNothing(t *testing.T) {
	want := blocks([]byte("key"), []byte("info"))
	for _, n := range []int{-1, 8161} {
		Expand([]byte("key"), []byte("info"), n)
		Key([]byte("key"), []byte("info"), nil, n)
		if got := expand(t, []byte("key"), []byte("info"), 100); !bytes.Equal(got, want[:100]) {
			t.Errorf("behind %d: %x", n, got)
		}
	}
}

func TestKeyIsExpandOfExtract(t *testing.T) {
	for _, n := range lengths() {
		for i, x := range [][3][]byte{{made(n, 12), made(20, 13), made(7, 14)}, {made(20, 15), made(n, 16), made(7, 17)}, {made(20, 18), made(30, 19), made(n, 20)}, {nil, made(n, 21), nil}} {
			salt, secret, info := x[0], x[1], x[2]
			for _, size := range sizes() {
				want, err := hkdf.Key(sha256.New, secret, salt, string(info), size)
				if err != nil {
					t.Fatal(err)
				}
				got := key(t, salt, secret, info, size)
				if !bytes.Equal(got, want) {
					t.Errorf("%d, %d bytes, of %d: it goes astray at %d", i, n, size, astray(got, want))
				}
				if expanded := expand(t, Extract(salt, secret), info, size); !bytes.Equal(got, expanded) {
					t.Errorf("%d, %d bytes, of %d: it is not Expand of Extract", i, n, size)
				}
			}
		}
	}
}

func TestKeyWithASaltOfNoBytes(t *testing.T) {
	secret, info := []byte("secret"), []byte("info")
	want := blocks(tag(make([]byte, 32), secret), info)
	for i, none := range append(nothings(), make([]byte, 32)) {
		if got := key(t, none, secret, info, 100); !bytes.Equal(got, want[:100]) {
			t.Errorf("nothing %d: %x, wanted %x", i, got, want[:100])
		}
	}
}

func TestKeyTellsItsPartsApart(t *testing.T) {
	a, b, c := []byte("a"), []byte("b"), []byte("c")
	base := key(t, a, b, c, 32)
	for i, x := range [][3][]byte{{b, a, c}, {a, c, b}, {c, b, a}, {b, c, a}, {c, a, b}, {nil, b, c}, {a, nil, c}, {a, b, nil}} {
		if bytes.Equal(base, key(t, x[0], x[1], x[2], 32)) {
			t.Errorf("%d: the same key", i)
		}
	}
}

// P5.3

func TestNamedOfKnownNames(t *testing.T) {
	for _, x := range []struct{ key, name, want string }{
		{"key", "", "c4b7fa4eb761e79b868781c0bab94dcc3b7231bf90c33b8692f99ee8dc30a13f"},
		{"key", "x", "cb16784a0debae1f41d2665d24170cc153c3f58f84cfe989e5f22b86f1e3217d"},
		{"key", "name", "11c10655d030287a7dc00556d7a93e58ed5ab414743d5c8447a8dbdca565d7b4"},
		{"key", "\xff\x00", "2264e38ad55d006f0bc38272a815b0f9c7e749449488084aa203f48fea4a5df5"},
		{"key", strings.Repeat("a", 100), "612c1b2770e512b5d904cd2449982319ed1ed5b06849d9836952536e171110d7"},
		{"", "", "b33124f3dd9307d8f01a3e988ceedf926ff28896009bd1dd129773f646953e05"},
	} {
		if got := hex.EncodeToString(Named([]byte(x.key), x.name)); got != x.want {
			t.Errorf("%q, %q: %s, wanted %s", x.key, x.name, got, x.want)
		}
	}
}

func TestNamedIsExpandOfTheText(t *testing.T) {
	for _, n := range lengths() {
		for _, m := range lengths() {
			from, name := made(n, 22), string(made(m, 23))
			want := tag(from, []byte("carcanet "), []byte(name), []byte{1})
			got := Named(from, name)
			if !bytes.Equal(got, want) {
				t.Errorf("%d and %d bytes: %x, wanted %x", n, m, got, want)
			}
			if longer := expand(t, from, []byte("carcanet "+name), Most); !bytes.Equal(got, longer[:32]) {
				t.Errorf("%d and %d bytes: %x, and Expand's are %x", n, m, got, longer[:32])
			}
		}
	}
}

func TestNamedOfNoBytes(t *testing.T) {
	for i, none := range nothings() {
		for _, name := range []string{"", "a"} {
			if got, want := Named(none, name), tag(nil, []byte("carcanet "+name), []byte{1}); !bytes.Equal(got, want) {
				t.Errorf("nothing %d, %q: %x, wanted %x", i, name, got, want)
			}
		}
	}
}

func TestNamedOfOtherNamesAndKeys(t *testing.T) {
	seen := map[string]string{}
	for _, from := range []string{"", "key", "kez", "key\x01"} {
		for _, name := range []string{"", " ", "a", "A", " a", "a ", "aa", "a\x00", "carcanet ", "carcanet a", "\xff", "ü"} {
			got := string(Named([]byte(from), name))
			if other, met := seen[got]; met {
				t.Errorf("%q, %q: the key of %s", from, name, other)
			}
			seen[got] = from + ", " + name
		}
	}
}

// P5.4

// follows asks of a key and an info all that the chapter says follows, for each two numbers of bytes that are given.
func follows(t *testing.T, from, info []byte, most []int) {
	t.Helper()
	whole, wholeKey := expand(t, from, info, Most), key(t, info, from, info, Most)
	for _, n := range most {
		if got := expand(t, from, info, n); !bytes.Equal(got, whole[:n]) {
			t.Errorf("%x, %x: Expand of %d goes astray at %d", from, info, n, astray(got, whole))
		}
		if got := key(t, info, from, info, n); !bytes.Equal(got, wholeKey[:n]) {
			t.Errorf("%x, %x: Key of %d goes astray at %d", from, info, n, astray(got, wholeKey))
		}
	}
}

func TestWhatFollows(t *testing.T) {
	var each []int
	for n := range 260 {
		each = append(each, n)
	}
	follows(t, []byte("key"), []byte("info"), append(each, sizes()...))
	follows(t, nil, nil, each)
	for _, n := range lengths() {
		follows(t, made(n, 24), made(12, 25), sizes())
		follows(t, made(33, 26), made(n, 27), sizes())
	}
}

func FuzzWhatFollows(f *testing.F) {
	f.Add([]byte("key"), []byte("salt"), []byte("info"), 42)
	f.Add([]byte{}, []byte{}, []byte{}, 0)
	f.Add(made(65, 1), made(130, 2), made(32, 3), 8161)
	f.Add(made(64, 4), []byte{}, made(200, 5), -1)
	f.Fuzz(func(t *testing.T, from, salt, info []byte, n int) {
		if got := Named(from, string(info)); !bytes.Equal(got, tag(from, []byte("carcanet "), info, []byte{1})) {
			t.Errorf("%x, %q: Named is %x", from, info, got)
		}
		b, e := Expand(from, info, n)
		c, d := Key(salt, from, info, n)
		if n < 0 || n > 8160 {
			if e != api.ErrArg || d != api.ErrArg || len(b) != 0 || len(c) != 0 {
				t.Errorf("of %d: errors %d and %d, %d and %d bytes", n, e, d, len(b), len(c))
			}
			return
		}
		all, allKey := blocks(from, info), blocks(Extract(salt, from), info)
		if e != api.OK || d != api.OK || !bytes.Equal(b, all[:n]) || !bytes.Equal(c, allKey[:n]) {
			t.Errorf("%x, %x, %x, of %d: errors %d and %d, astray at %d and %d", from, salt, info, n, e, d, astray(b, all), astray(c, allKey))
		}
	})
}

// Rules 4, 5 and 8: what is handed in stays as it was, what is handed out is new memory, what lies behind a length does not count, and nothing is kept.

// calls answers what each call makes of a, b and c, and of n bytes.
func calls(a, b, c []byte, n int) map[string][]byte {
	expanded, _ := Expand(a, b, n)
	keyed, _ := Key(a, b, c, n)
	return map[string][]byte{"Extract": Extract(a, b), "no salt": Extract(a[:0], b), "Expand": expanded, "Key": keyed, "Named": Named(a, string(c))}
}

// fill writes over all of b's memory, its spare room too.
func fill(b []byte) {
	b = b[:cap(b)]
	for i := range b {
		b[i] ^= 0xa5
	}
}

func TestWhatIsHandedInStaysAsItWas(t *testing.T) {
	for _, n := range append(sizes(), -1, 8161) {
		for _, length := range []int{0, 1, 31, 32, 63, 64, 65, 128} {
			wholes := [][]byte{made(300, 28), made(300, 29), made(300, 30)}
			kept := [][]byte{bytes.Clone(wholes[0]), bytes.Clone(wholes[1]), bytes.Clone(wholes[2])}
			a, b, c := wholes[0][:length], wholes[1][:200-length], wholes[2][:length/2]
			for _, got := range calls(a, b, c, n) {
				fill(got)
			}
			for _, got := range calls(a, a, a, n) {
				fill(got)
			}
			for i, whole := range wholes {
				if !bytes.Equal(whole, kept[i]) {
					t.Errorf("%d bytes, of %d: argument %d: %x, was %x", length, n, i, whole, kept[i])
				}
			}
		}
	}
}

func TestWhatIsHandedOutIsNewMemory(t *testing.T) {
	for _, n := range sizes() {
		a, b, c := made(40, 31), made(70, 32), made(12, 33)
		want, first, second := calls(a, b, c, n), calls(a, b, c, n), calls(a, b, c, n)
		for _, in := range [][]byte{a, b, c} {
			fill(in)
		}
		for name, got := range first {
			if !bytes.Equal(got, want[name]) {
				t.Errorf("%s of %d: it changes with what was handed in", name, n)
			}
			fill(got)
			if !bytes.Equal(second[name], want[name]) {
				t.Errorf("%s of %d: it changes with what was handed out ahead of it", name, n)
			}
		}
	}
	again := Named([]byte("key"), "x")
	fill(Named([]byte("key"), "x"))
	if !bytes.Equal(again, tag([]byte("key"), []byte("carcanet x"), []byte{1})) {
		t.Error("Named hands out what it handed out ahead of it")
	}
}

func TestWhatLiesBehindALengthDoesNotCount(t *testing.T) {
	for _, length := range []int{0, 1, 31, 32, 33, 63, 64, 65} {
		whole, other := made(200, 34), made(200, 34)
		for i := length; i < len(other); i++ {
			other[i] ^= 0xff
		}
		for _, n := range sizes() {
			want := calls(whole[:length], whole[:length], whole[:length], n)
			for name, got := range calls(other[:length], other[:length], other[:length], n) {
				if !bytes.Equal(got, want[name]) {
					t.Errorf("%s, %d bytes, of %d: it changes with the spare room of what was handed in", name, length, n)
				}
				if spare := got[len(got):cap(got)]; len(bytes.Trim(spare, "\x00")) != 0 {
					t.Errorf("%s, %d bytes, of %d: its spare room holds %x", name, length, n, spare)
				}
			}
		}
	}
}
