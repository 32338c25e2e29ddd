package box

import (
	"bytes"
	"crypto/sha256"
	"encoding/hex"
	"math"
	"slices"
	"testing"

	"carcanet/api"
	"carcanet/cipher"
	"carcanet/poly"
)

// made answers so many bytes without a plain order, the same ones for the same seed.
func made(length int, seed byte) []byte {
	b := make([]byte, length)
	state := uint32(seed)*2654435761 + 1
	for i := range b {
		state = state*1664525 + 1013904223
		b[i] = byte(state>>24) ^ seed
	}
	return b
}

// unhex answers the bytes that a text of hex digits is.
func unhex(t testing.TB, text string) []byte {
	t.Helper()
	b, err := hex.DecodeString(text)
	if err != nil {
		t.Fatal(err)
	}
	return b
}

// rising answers so many bytes from the first one on, each one above the one ahead of it.
func rising(first, many int) []byte {
	b := make([]byte, many)
	for i := range b {
		b[i] = byte(first + i)
	}
	return b
}

// all answers so many bytes that are one.
func all(b byte, many int) []byte { return bytes.Repeat([]byte{b}, many) }

// nothings answers the ways in which no bytes may come in.
func nothings() [][]byte {
	return [][]byte{nil, {}, make([]byte, 0, 100), []byte("abc")[:0]}
}

// lengths answers lengths of texts at the edges of what is padded, and of Blocks.
func lengths() []int {
	return []int{0, 1, 2, 15, 16, 17, 31, 32, 33, 63, 64, 65}
}

// texts answers texts of each length, and the ways in which no bytes may come in.
func texts(seed byte) [][]byte {
	list := nothings()
	for _, n := range lengths() {
		list = append(list, made(n, seed+byte(n)))
	}
	return append(list, make([]byte, 16), all(255, 33), make([]byte, 64))
}

// wrong is how many bytes a key and a nonce have that are refused.
type wrong struct{ key, nonce int }

// wrongs answers keys and nonces at each side of what they must be, and each alone that is right.
func wrongs() []wrong {
	list := []wrong{{0, 0}, {12, 32}, {31, 11}, {31, 13}, {33, 11}, {33, 13}, {0, 11}, {0, 13}, {31, 0}, {33, 0}, {32 + 256, 12 + 256}}
	for n := range 100 {
		if n != 32 {
			list = append(list, wrong{n, 12})
		}
		if n != 12 {
			list = append(list, wrong{32, n})
		}
	}
	return append(list, wrong{32 + 256, 12}, wrong{32, 12 + 256}, wrong{65536 + 32, 12}, wrong{32, 65536 + 12})
}

// wantSeal answers Seal's bytes by the chapter's words, of a key and a nonce that are right.
func wantSeal(key, nonce, with, msg []byte) []byte {
	changed, _ := cipher.Xor(key, nonce, 1, msg)
	block, _ := cipher.Block(key, nonce, 0)
	var under []byte
	for _, text := range [][]byte{with, changed} {
		under = append(under, text...)
		for len(under)%16 != 0 {
			under = append(under, 0)
		}
	}
	for _, text := range [][]byte{with, changed} {
		left := uint64(len(text))
		for range 8 {
			under = append(under, byte(left%256))
			left /= 256
		}
	}
	tag, _ := poly.Tag(block[:32], under)
	return append(changed, tag...)
}

// seal answers Seal's bytes, of what must not be refused.
func seal(t *testing.T, key, nonce, with, msg []byte) []byte {
	t.Helper()
	sealed, e := Seal(key, nonce, with, msg)
	if e != api.OK || len(sealed) != len(msg)+16 {
		t.Fatalf("Seal of %d bytes with %d: %d bytes, error %d", len(msg), len(with), len(sealed), e)
	}
	return sealed
}

// open asks that what is sealed is opened, and is this text.
func open(t *testing.T, key, nonce, with, sealed, want []byte) {
	t.Helper()
	if msg, e := Open(key, nonce, with, sealed); e != api.OK || !bytes.Equal(msg, want) {
		t.Errorf("Open of %x with %x: %x, error %d, wanted %x", sealed, with, msg, e, want)
	}
}

// refused asks that Open refuses by this error, and answers no bytes.
func refused(t *testing.T, key, nonce, with, sealed []byte, want api.Errno) {
	t.Helper()
	if msg, e := Open(key, nonce, with, sealed); e != want || len(msg) != 0 {
		t.Errorf("a key of %d bytes, a nonce of %d, with %d: Open of %x: %d bytes, error %d, wanted %d", len(key), len(nonce), len(with), sealed, len(msg), e, want)
	}
}

// bothRefused asks that a key and a nonce are refused, by Seal, and by Open of what is sealed.
func bothRefused(t *testing.T, key, nonce, with, msg, sealed []byte) {
	t.Helper()
	if got, e := Seal(key, nonce, with, msg); e != api.ErrArg || len(got) != 0 {
		t.Errorf("a key of %d bytes, a nonce of %d: Seal of %d bytes with %d: %d bytes, error %d", len(key), len(nonce), len(msg), len(with), len(got), e)
	}
	refused(t, key, nonce, with, sealed, api.ErrArg)
}

// P8.1

func TestTagSize(t *testing.T) {
	if TagSize != 16 {
		t.Error(TagSize)
	}
}

// The chapter's example, and numbers at the edges of their bytes.
func TestNonceOfKnownNumbers(t *testing.T) {
	for _, x := range []struct {
		n    uint64
		want string
	}{
		{0, "000000000000000000000000"},
		{1, "000000000000000000000001"},
		{255, "0000000000000000000000ff"},
		{256, "000000000000000000000100"},
		{258, "000000000000000000000102"},
		{65535, "00000000000000000000ffff"},
		{65536, "000000000000000000010000"},
		{1<<32 - 1, "0000000000000000ffffffff"},
		{1 << 32, "000000000000000100000000"},
		{1<<32 + 1, "000000000000000100000001"},
		{1<<56 - 1, "0000000000ffffffffffffff"},
		{1 << 63, "000000008000000000000000"},
		{math.MaxInt64, "000000007fffffffffffffff"},
		{math.MaxUint64 - 1, "00000000fffffffffffffffe"},
		{math.MaxUint64, "00000000ffffffffffffffff"},
		{0x0102030405060708, "000000000102030405060708"},
		{0xf1e2d3c4b5a69788, "00000000f1e2d3c4b5a69788"},
	} {
		if got := hex.EncodeToString(Nonce(x.n)); got != x.want {
			t.Errorf("%d: %s, wanted %s", x.n, got, x.want)
		}
	}
}

func TestNonceOfEachBit(t *testing.T) {
	for bit := range 64 {
		want := make([]byte, 12)
		want[11-bit/8] = 1 << (bit % 8)
		if got := Nonce(1 << bit); !bytes.Equal(got, want) {
			t.Errorf("2^%d: %x, wanted %x", bit, got, want)
		}
	}
}

// A Nonce is one that Seal and Open take, and each number's is another.
func TestNonceOfANumberSeals(t *testing.T) {
	key, with, msg := made(32, 1), made(5, 2), made(20, 3)
	numbers := []uint64{0, 1, 2, 255, 256, 258, 1 << 32, 1<<32 + 258, math.MaxUint64}
	for _, n := range numbers {
		sealed := seal(t, key, Nonce(n), with, msg)
		for _, m := range numbers {
			if n == m {
				open(t, key, Nonce(m), with, sealed, msg)
			} else {
				refused(t, key, Nonce(m), with, sealed, api.ErrSeal)
			}
		}
	}
}

// P8.2

const (
	sunscreen = "Ladies and Gentlemen of the class of '99: If I could offer you only one tip for the future, sunscreen would be it."
	drafts    = "Internet-Drafts are draft documents valid for a maximum of six months and may be updated, replaced, or obsoleted by other documents at any time. It is inappropriate to use Internet-Drafts as reference material or to cite them other than as /\u201cwork in progress./\u201d"
)

// known is what another program sealed.
type known struct {
	key, nonce, with, msg []byte
	sealed                string
}

// knowns answers RFC 8439's cases (2.8.2, and A.5), and others at the edges of what is padded that another program made.
func knowns(t *testing.T) []known {
	noughts, no, key, nonce := make([]byte, 32), make([]byte, 12), rising(0, 32), rising(100, 12)
	return []known{
		{rising(128, 32), unhex(t, "070000004041424344454647"), unhex(t, "50515253c0c1c2c3c4c5c6c7"), []byte(sunscreen), "d31a8d34648e60db7b86afbc53ef7ec2a4aded51296e08fea9e2b5a736ee62d63dbea45e8ca9671282fafb69da92728b1a71de0a9e060b2905d6a5b67ecd3b3692ddbd7f2d778b8c9803aee328091b58fab324e4fad675945585808b4831d7bc3ff4def08e4b7a9de576d26586cec64b61161ae10b594f09e26a7e902ecbd0600691"},
		{unhex(t, "1c9240a5eb55d38af333888604f6b5f0473917c1402b80099dca5cbc207075c0"), Nonce(0x0102030405060708), unhex(t, "f33388860000000000004e91"), []byte(drafts), "64a0861575861af460f062c79be643bd5e805cfd345cf389f108670ac76c8cb24c6cfc18755d43eea09ee94e382d26b0bdb7b73c321b0100d4f03b7f355894cf332f830e710b97ce98c8a84abd0b948114ad176e008d33bd60f982b1ff37c8559797a06ef4f0ef61c186324e2b3506383606907b6a7c02b0f9f6157b53c867e4b9166c767b804d46a59b5216cde7a4e99040c5a40433225ee282a1b0a06c523eaf4534d7f83fa1155b0047718cbc546a0d072b04b3564eea1b422273f548271a0bb2316053fa76991955ebd63159434ecebb4e466dae5a1073a6727627097a1049e617d91d361094fa68f0ff77987130305beaba2eda04df997b714d6c6f2c29a6ad5cb4022b02709beead9d67890cbb22392336fea1851f38"},
		{noughts, no, nil, nil, "4eb972c9a8fb3a1b382bb4d36f5ffad1"},
		{noughts, no, nil, make([]byte, 1), "9fbedcfd1809ff3c10adf8277fcc0581b8"},
		{noughts, no, make([]byte, 1), nil, "a62278e70d8adab9e6dc2a4e4a93f149"},
		{all(255, 32), all(255, 12), all(255, 16), all(255, 16), "22d8bfc313e141bd692c82cec7785b29d8ae4f8a6eb98f32471e5fcb147b5e40"},
		{all(255, 32), all(255, 12), all(255, 17), all(255, 17), "22d8bfc313e141bd692c82cec7785b295f34c6e010bb7fef6ab08625425394d1ab"},
		{key, nonce, rising(0, 15), rising(0, 15), "3410b9c99ca07055f3d71f74fe84d6be544b8dc8e1692487dc4ca0bee55735"},
		{key, nonce, rising(0, 33), rising(0, 65), "3410b9c99ca07055f3d71f74fe84d69c60d780278b45fdbade26eca9e62fd2ecea9890c38b1f6c54b7c6e0c6c48ec6e7f4eabd2e2b5e00de6686d1ad388b6fce52820e7811f7b5cb1b33be2cf009d539fc"},
		{key, nonce, rising(0, 64), rising(0, 31), "3410b9c99ca07055f3d71f74fe84d69c60d780278b45fdbade26eca9e62fd2d81427baac0f124f415f8d2328d33a9c"},
		{key, nonce, rising(0, 300), rising(0, 1), "34517a00178000f89b75ba6afa9c34cfe7"},
		{key, nonce, nil, rising(0, 64), "3410b9c99ca07055f3d71f74fe84d69c60d780278b45fdbade26eca9e62fd2ecea9890c38b1f6c54b7c6e0c6c48ec6e7f4eabd2e2b5e00de6686d1ad388b6fcecec5496dc5855069a145c21b56d5878e"},
	}
}

func TestSealsThatAreKnown(t *testing.T) {
	for i, x := range knowns(t) {
		if got := hex.EncodeToString(seal(t, x.key, x.nonce, x.with, x.msg)); got != x.sealed {
			t.Errorf("%d: %s, wanted %s", i, got, x.sealed)
		}
	}
}

// Of great texts the lengths have a third byte, and a fourth. Of what another program sealed here are the tag, and the sum of all of it.
func TestSealOfKnownGreatTexts(t *testing.T) {
	for _, x := range []struct {
		with, msg int
		tag, sum  string
	}{
		{1<<16 + 300, 1<<16 + 77, "548bdd8a7d382cec2edc2a39e0d2e27b", "2b5db42ccffff855d44a4e31bff597ad0213397f548345aa69445b16009be609"},
		{1<<24 + 261, 1<<24 + 253, "2dd5c0c029e4e5448667d1231c10630c", "8718fb2fffd014b09b39f4deb7b886e7ccf57deb8b3768c6801a8fe2c4041a2e"},
	} {
		sealed := seal(t, rising(0, 32), rising(100, 12), rising(0, x.with), rising(0, x.msg))
		sum := sha256.Sum256(sealed)
		if got := hex.EncodeToString(sealed[x.msg:]); got != x.tag {
			t.Errorf("%d bytes with %d: the tag is %s, wanted %s", x.msg, x.with, got, x.tag)
		}
		if got := hex.EncodeToString(sum[:]); got != x.sum {
			t.Errorf("%d bytes with %d: the sum of what is sealed is %s, wanted %s", x.msg, x.with, got, x.sum)
		}
	}
}

// rightSeal asks that what is sealed is that of the chapter's words.
func rightSeal(t *testing.T, key, nonce, with, msg []byte) {
	t.Helper()
	if got, want := seal(t, key, nonce, with, msg), wantSeal(key, nonce, with, msg); !bytes.Equal(got, want) {
		t.Errorf("key %x, nonce %x: Seal of %x with %x: %x, wanted %x", key, nonce, msg, with, got, want)
	}
}

func TestSealByTheChaptersWords(t *testing.T) {
	for seed := range byte(5) {
		for _, with := range texts(10) {
			for _, msg := range texts(20) {
				rightSeal(t, made(32, seed), made(12, seed+100), with, msg)
			}
		}
	}
	for _, b := range []byte{0, 255} {
		for _, n := range lengths() {
			for _, m := range lengths() {
				rightSeal(t, all(b, 32), all(b, 12), all(b, n), all(b, m))
			}
		}
	}
}

func TestSealOfEachLength(t *testing.T) {
	for n := range 300 {
		rightSeal(t, made(32, 4), made(12, 5), nil, made(n, 6))
		rightSeal(t, made(32, 4), made(12, 5), made(n, 6), nil)
		rightSeal(t, made(32, 4), made(12, 5), made(n, 6), made(300-n, 7))
	}
	for _, n := range []int{1000, api.MaxPacket - 1, api.MaxPacket, 65535, 65536, 65537} {
		rightSeal(t, made(32, 4), made(12, 5), made(3, 8), made(n, 6))
		rightSeal(t, made(32, 4), made(12, 5), made(n, 6), made(3, 8))
	}
}

func TestSealOfNoBytes(t *testing.T) {
	key, nonce := made(32, 9), made(12, 10)
	want := wantSeal(key, nonce, nil, nil)
	for i, with := range nothings() {
		for k, msg := range nothings() {
			if got := seal(t, key, nonce, with, msg); !bytes.Equal(got, want) {
				t.Errorf("nothing %d with nothing %d: %x, wanted %x", k, i, got, want)
			}
		}
	}
}

func TestSealOfEachBitOfAKeyAndANonce(t *testing.T) {
	for _, others := range []byte{0, 255} {
		for bit := range 8 * 44 {
			both := all(others, 44)
			both[bit/8] ^= 1 << (bit % 8)
			rightSeal(t, both[:32], both[32:], []byte("with"), []byte("a text"))
		}
	}
}

// The text's own Blocks are those from the counter 1 on; the one of the counter 0 is the tag's alone.
func TestSealOfNoughtsIsTheBlocksFrom1On(t *testing.T) {
	key, nonce := made(32, 11), made(12, 12)
	sealed := seal(t, key, nonce, nil, make([]byte, 200))
	for counter := range uint32(4) {
		block, _ := cipher.Block(key, nonce, counter)
		at := 64 * (int(counter) - 1)
		if at < 0 {
			if bytes.Contains(sealed, block[:16]) || bytes.Contains(sealed, block[32:48]) {
				t.Error("the Block of the counter 0 is told")
			}
			continue
		}
		if !bytes.Equal(sealed[at:at+64], block) {
			t.Errorf("from %d on: %x, wanted the Block of %d", at, sealed[at:at+64], counter)
		}
	}
}

func TestAWrongKeyOrNonceIsRefused(t *testing.T) {
	for _, x := range wrongs() {
		key, nonce := made(x.key, 13), made(x.nonce, 14)
		for _, n := range []int{0, 1, 16, 65} {
			for _, m := range []int{0, 1, 15, 16, 17, 65} {
				bothRefused(t, key, nonce, made(n, 15), made(m, 16), made(m, 17))
			}
		}
		bothRefused(t, make([]byte, x.key), make([]byte, x.nonce), nil, nil, nil)
		// nor does it count what lies behind their lengths
		bothRefused(t, made(x.key+100, 13)[:x.key], made(x.nonce+100, 14)[:x.nonce], made(5, 15), made(6, 16), made(30, 17))
	}
	for _, none := range nothings() {
		for _, other := range nothings() {
			bothRefused(t, none, other, none, other, none)
		}
		bothRefused(t, none, made(12, 14), none, none, none)
		bothRefused(t, made(32, 13), none, none, none, none)
	}
}

// P8.3

func TestOpenOfWhatIsKnown(t *testing.T) {
	for _, x := range knowns(t) {
		open(t, x.key, x.nonce, x.with, unhex(t, x.sealed), x.msg)
	}
}

func TestOpenByTheChaptersWords(t *testing.T) {
	for seed := range byte(5) {
		key, nonce := made(32, seed), made(12, seed+100)
		for _, with := range texts(30) {
			for _, msg := range texts(40) {
				open(t, key, nonce, with, wantSeal(key, nonce, with, msg), msg)
			}
		}
	}
	for _, n := range []int{1000, api.MaxPacket, 65535, 65536, 65537} {
		key, nonce, with, msg := made(32, 18), made(12, 19), made(n+1, 20), made(n, 21)
		open(t, key, nonce, with, wantSeal(key, nonce, with, msg), msg)
	}
}

// Of two errors the first is told: a wrong key or nonce ahead of too few bytes, and of a wrong tag.
func TestWhichErrorOpenTells(t *testing.T) {
	key, nonce, with := made(32, 22), made(12, 23), made(7, 24)
	sealed := wantSeal(key, nonce, with, made(20, 25))
	wrongTag := bytes.Clone(sealed)
	wrongTag[len(sealed)-1] ^= 1
	for _, x := range []struct{ key, nonce []byte }{{nil, nonce}, {key[:31], nonce}, {append(bytes.Clone(key), 0), nonce}, {key, nil}, {key, nonce[:11]}, {key, append(bytes.Clone(nonce), 0)}, {nil, nil}, {key[:31], nonce[:11]}} {
		for _, from := range [][]byte{nil, {}, sealed[:1], sealed[:15], sealed[:16], wrongTag, sealed} {
			refused(t, x.key, x.nonce, with, from, api.ErrArg)
		}
	}
	for n := range 16 {
		// even where they are the beginning, or the end, of what is sealed, or of a tag
		refused(t, key, nonce, with, sealed[:n], api.ErrShort)
		refused(t, key, nonce, with, sealed[len(sealed)-n:], api.ErrShort)
		refused(t, key, nonce, with, wantSeal(key, nonce, with, nil)[:n], api.ErrShort)
		refused(t, key, nonce, nil, make([]byte, n), api.ErrShort)
		// nor does it count what lies behind them
		refused(t, key, nonce, with, wantSeal(key, nonce, with, nil)[:n:16], api.ErrShort)
	}
	for _, none := range nothings() {
		refused(t, key, nonce, with, none, api.ErrShort)
		refused(t, key, nonce, none, none, api.ErrShort)
	}
}

// Of 16 bytes one text alone is opened for each with: that of no bytes.
func TestOpenOf16Bytes(t *testing.T) {
	key, nonce := made(32, 26), made(12, 27)
	for _, with := range texts(50) {
		right := wantSeal(key, nonce, with, nil)
		open(t, key, nonce, with, right, nil)
		for _, sealed := range [][]byte{make([]byte, 16), all(255, 16), made(16, 28), append([]byte{0}, right[:15]...), append(bytes.Clone(right[1:]), 0)} {
			refused(t, key, nonce, with, sealed, api.ErrSeal)
		}
		refused(t, key, nonce, append(bytes.Clone(with), 0), right, api.ErrSeal)
	}
}

// changes asks that what is sealed is refused where one byte of it, or of with, is another.
func changes(t *testing.T, key, nonce, with, sealed []byte) {
	t.Helper()
	for _, by := range []byte{1, 2, 16, 128, 255} {
		for at := range sealed {
			changed := bytes.Clone(sealed)
			changed[at] ^= by
			refused(t, key, nonce, with, changed, api.ErrSeal)
		}
		for at := range with {
			changed := bytes.Clone(with)
			changed[at] ^= by
			refused(t, key, nonce, changed, sealed, api.ErrSeal)
		}
	}
}

func TestOpenOfAChangedByte(t *testing.T) {
	key, nonce := made(32, 29), made(12, 30)
	for _, n := range lengths() {
		for _, m := range lengths() {
			with := made(n, 31)
			changes(t, key, nonce, with, wantSeal(key, nonce, with, made(m, 32)))
		}
	}
}

func TestOpenOfEachByteOfATag(t *testing.T) {
	key, nonce, with, msg := made(32, 33), made(12, 34), made(9, 35), made(21, 36)
	sealed := wantSeal(key, nonce, with, msg)
	for at := len(msg); at < len(sealed); at++ {
		for b := range 256 {
			changed := bytes.Clone(sealed)
			changed[at] = byte(b)
			if changed[at] == sealed[at] {
				open(t, key, nonce, with, changed, msg)
			} else {
				refused(t, key, nonce, with, changed, api.ErrSeal)
			}
		}
	}
	// and where bytes are changed so that what they differ in adds up to nothing
	for at := len(msg); at < len(sealed)-1; at++ {
		changed := bytes.Clone(sealed)
		changed[at] ^= 64
		changed[at+1] ^= 64
		refused(t, key, nonce, with, changed, api.ErrSeal)
	}
}

func TestOpenOfOtherBytes(t *testing.T) {
	key, nonce := made(32, 37), made(12, 38)
	for _, n := range lengths() {
		for _, m := range lengths() {
			with, msg := made(n, 39), made(m, 40)
			sealed := wantSeal(key, nonce, with, msg)
			text, tag := sealed[:m], sealed[m:]
			for _, other := range [][]byte{append(bytes.Clone(sealed), 0), append([]byte{0}, sealed...), slices.Concat(text, []byte{0}, tag), slices.Concat(text, make([]byte, 16), tag), slices.Concat(text, make([]byte, 16)), slices.Concat(text, all(255, 16)), slices.Concat(sealed, tag)} {
				refused(t, key, nonce, with, other, api.ErrSeal)
			}
			if m > 0 {
				refused(t, key, nonce, with, sealed[1:], api.ErrSeal)
				refused(t, key, nonce, with, sealed[:m+15], api.ErrSeal)
				refused(t, key, nonce, with, tag, api.ErrSeal)
				refused(t, key, nonce, with, slices.Concat(tag, text), api.ErrSeal)
				refused(t, key, nonce, with, slices.Concat(msg, tag), api.ErrSeal)
			}
			for _, other := range [][]byte{append(bytes.Clone(with), 0), append([]byte{0}, with...), append(bytes.Clone(with), make([]byte, 16)...)} {
				refused(t, key, nonce, other, sealed, api.ErrSeal)
			}
			if n > 0 {
				refused(t, key, nonce, with[1:], sealed, api.ErrSeal)
				refused(t, key, nonce, with[:n-1], sealed, api.ErrSeal)
				refused(t, key, nonce, nil, sealed, api.ErrSeal)
			}
		}
	}
}

// Bytes 0 at an end count, which padding alone does not tell.
func TestOpenTellsBytes0AtAnEnd(t *testing.T) {
	key, nonce := made(32, 41), made(12, 42)
	for n := range 40 {
		for m := range 40 {
			if n == m {
				continue
			}
			refused(t, key, nonce, make([]byte, m), wantSeal(key, nonce, make([]byte, n), []byte("abc")), api.ErrSeal)
			sealed := wantSeal(key, nonce, []byte("abc"), make([]byte, n))
			other := wantSeal(key, nonce, []byte("abc"), make([]byte, m))
			refused(t, key, nonce, []byte("abc"), slices.Concat(sealed[:n], other[m:]), api.ErrSeal)
		}
	}
}

// Bytes moved from with to what is sealed, or back, leave the padded texts as they were, one behind the other: the two lengths tell them.
func TestOpenOfBytesThatAreMoved(t *testing.T) {
	key, nonce := made(32, 43), made(12, 44)
	for _, n := range []int{1, 15, 16, 17, 32, 48, 64, 65} {
		for _, m := range []int{1, 15, 16, 17, 32, 48, 64, 65} {
			with := made(n, 45)
			sealed := wantSeal(key, nonce, with, made(m, 46))
			for by := 1; by <= n; by++ {
				refused(t, key, nonce, with[:n-by], slices.Concat(with[n-by:], sealed), api.ErrSeal)
			}
			for by := 1; by <= m; by++ {
				refused(t, key, nonce, slices.Concat(with, sealed[:by]), sealed[by:], api.ErrSeal)
			}
		}
	}
}

func TestOpenUnderAnotherKeyOrNonce(t *testing.T) {
	both := made(44, 47)
	with, msg := made(10, 48), made(30, 49)
	sealed := wantSeal(both[:32], both[32:], with, msg)
	for bit := range 8 * 44 {
		other := bytes.Clone(both)
		other[bit/8] ^= 1 << (bit % 8)
		refused(t, other[:32], other[32:], with, sealed, api.ErrSeal)
	}
	for _, none := range [][]byte{wantSeal(both[:32], both[32:], nil, nil), wantSeal(both[:32], both[32:], with, nil)} {
		refused(t, make([]byte, 32), both[32:], nil, none, api.ErrSeal)
		refused(t, both[:32], make([]byte, 12), nil, none, api.ErrSeal)
	}
}

// What was sealed under one with or nonce is no part of what is sealed under another.
func TestOpenOfATagOfAnotherText(t *testing.T) {
	key, with := made(32, 50), made(6, 51)
	one := wantSeal(key, Nonce(1), with, []byte("a text"))
	for _, other := range [][]byte{wantSeal(key, Nonce(2), with, []byte("a text")), wantSeal(key, Nonce(1), nil, []byte("a text")), wantSeal(key, Nonce(1), with, []byte("a word")), wantSeal(made(32, 52), Nonce(1), with, []byte("a text"))} {
		refused(t, key, Nonce(1), with, slices.Concat(one[:6], other[6:]), api.ErrSeal)
	}
	open(t, key, Nonce(1), with, one, []byte("a text"))
}

// A refused call leaves nothing behind: the next one answers what it would have.
func TestARefusedCallChangesNothing(t *testing.T) {
	key, nonce, with, msg := made(32, 53), made(12, 54), made(8, 55), made(40, 56)
	want := wantSeal(key, nonce, with, msg)
	changed := bytes.Clone(want)
	changed[50] ^= 4
	for _, call := range []func(){
		func() { Seal(key[:31], nonce, with, msg) },
		func() { Seal(key, nonce[:11], with, msg) },
		func() { Open(key[:31], nonce, with, want) },
		func() { Open(key, nonce, with, want[:15]) },
		func() { Open(key, nonce, with, changed) },
		func() { Open(key, nonce, msg, want) },
	} {
		call()
		if got := seal(t, key, nonce, with, msg); !bytes.Equal(got, want) {
			t.Errorf("%x, wanted %x", got, want)
		}
		open(t, key, nonce, with, want, msg)
	}
}

// P8.4

// follows asks of a key, a nonce and texts all that the chapter says follows.
func follows(t *testing.T, key, nonce, with, msg []byte) {
	t.Helper()
	sealed := seal(t, key, nonce, with, msg)
	if len(sealed) != len(msg)+TagSize {
		t.Errorf("%d bytes become %d", len(msg), len(sealed))
	}
	open(t, key, nonce, with, sealed, msg)
	for at := len(msg); at < len(sealed); at++ {
		changed := bytes.Clone(sealed)
		changed[at] ^= byte(1 + at%255)
		refused(t, key, nonce, with, changed, api.ErrSeal)
	}
}

func TestWhatFollows(t *testing.T) {
	for seed := range byte(4) {
		for _, with := range texts(60) {
			for _, msg := range texts(70) {
				follows(t, made(32, seed), made(12, seed+100), with, msg)
			}
		}
	}
	follows(t, make([]byte, 32), make([]byte, 12), nil, nil)
	follows(t, all(255, 32), all(255, 12), all(255, 64), all(255, 64))
	follows(t, made(32, 57), Nonce(58), made(65537, 59), made(65537, 60))
}

// What is sealed may be sealed again, and is opened in turn.
func TestWhatIsSealedTwice(t *testing.T) {
	key, with, msg := made(32, 61), made(4, 62), made(33, 63)
	once := seal(t, key, Nonce(1), with, msg)
	twice := seal(t, key, Nonce(2), nil, once)
	open(t, key, Nonce(2), nil, twice, once)
	open(t, key, Nonce(1), with, once, msg)
	refused(t, key, Nonce(1), with, twice, api.ErrSeal)
	if len(twice) != len(msg)+32 {
		t.Errorf("%d bytes, twice sealed, are %d", len(msg), len(twice))
	}
}

func FuzzWhatFollows(f *testing.F) {
	f.Add(made(32, 1), made(12, 2), []byte{}, []byte{}, uint64(0), 0)
	f.Add(made(32, 3), made(12, 4), []byte("with"), []byte("abc"), uint64(258), 3)
	f.Add(made(31, 5), made(12, 6), made(16, 7), made(16, 8), uint64(1<<32), 5)
	f.Add(made(32, 9), made(13, 10), made(17, 11), made(15, 12), uint64(math.MaxUint64), 9)
	f.Add(all(255, 32), all(255, 12), all(255, 33), all(255, 65), uint64(1), 40)
	f.Fuzz(func(t *testing.T, key, nonce, with, msg []byte, n uint64, at int) {
		number := Nonce(n)
		for i, b := range number {
			if i < 4 && b != 0 || i >= 4 && b != byte(n>>(8*(11-i))) {
				t.Errorf("%d: %x", n, number)
			}
		}
		if len(key) != 32 {
			bothRefused(t, key, number, with, msg, msg)
			return
		}
		if len(nonce) != 12 {
			bothRefused(t, key, nonce, with, msg, msg)
			nonce = number
		}
		rightSeal(t, key, nonce, with, msg)
		follows(t, key, nonce, with, msg)
		// what comes in as sealed is opened just if it is what the text that it is opened to is sealed to
		if len(msg) < 16 {
			refused(t, key, nonce, with, msg, api.ErrShort)
		} else if got, e := Open(key, nonce, with, msg); e != api.OK {
			refused(t, key, nonce, with, msg, api.ErrSeal)
		} else if !bytes.Equal(wantSeal(key, nonce, with, got), msg) {
			t.Errorf("%x is opened to %x", msg, got)
		}
		sealed := wantSeal(key, nonce, with, msg)
		sealed[uint(at)%uint(len(sealed))] ^= 1
		refused(t, key, nonce, with, sealed, api.ErrSeal)
	})
}

// Rules 4, 5 and 8: what is handed in stays as it was, what is handed out is new memory, what lies behind a length does not count, and nothing is kept.

// calls answers what each call that hands out bytes makes of what it is handed.
func calls(key, nonce, with, msg, sealed []byte) map[string][]byte {
	closed, _ := Seal(key, nonce, with, msg)
	opened, _ := Open(key, nonce, with, sealed)
	return map[string][]byte{"Seal": closed, "Open": opened}
}

// fill writes over all of b's memory, its spare room too.
func fill(b []byte) {
	b = b[:cap(b)]
	for i := range b {
		b[i] ^= 0xa5
	}
}

// sizes is how many bytes a key, a nonce, with, and a text have.
type sizes struct{ key, nonce, with, msg int }

// manySizes answers sizes that are taken, and such as are refused.
func manySizes() []sizes {
	var list []sizes
	for _, n := range lengths() {
		for _, m := range lengths() {
			list = append(list, sizes{32, 12, n, m})
		}
	}
	return append(list, sizes{31, 12, 5, 20}, sizes{33, 12, 5, 20}, sizes{32, 11, 5, 20}, sizes{32, 13, 5, 20}, sizes{0, 0, 0, 0})
}

// wholes answers memory with spare room of which the beginnings are a key, a nonce, with, a text, and what is sealed of them, and these beginnings.
func wholes(x sizes) (list, ins [5][]byte) {
	for i, n := range []int{x.key, x.nonce, x.with, x.msg} {
		list[i] = made(n+100, byte(80+i))
		ins[i] = list[i][:n]
	}
	list[4] = made(x.msg+16+100, 84)
	ins[4] = list[4][:x.msg+16]
	if x.key == 32 && x.nonce == 12 {
		copy(ins[4], wantSeal(ins[0], ins[1], ins[2], ins[3]))
	}
	return list, ins
}

func TestWhatIsHandedInStaysAsItWas(t *testing.T) {
	for _, x := range manySizes() {
		for _, cut := range []int{0, 1, 16, x.msg + 16} { // what is sealed whole, with a wrong end, and too short
			list, ins := wholes(x)
			var kept [5][]byte
			for i := range list {
				kept[i] = bytes.Clone(list[i])
			}
			sealed := ins[4][:x.msg+16-cut]
			for _, got := range calls(ins[0], ins[1], ins[2], ins[3], sealed) {
				fill(got)
			}
			for i := range list {
				if !bytes.Equal(list[i], kept[i]) {
					t.Errorf("%v, %d cut: argument %d: %x, was %x", x, cut, i, list[i], kept[i])
				}
			}
		}
	}
}

func TestOneMemoryForAllThatIsHandedIn(t *testing.T) {
	for _, n := range lengths() {
		for _, m := range lengths() {
			b := made(n+m+60, 85)
			kept := bytes.Clone(b)
			key, nonce, with, msg := b[7:39], b[30:42], b[:n], b[3:3+m]
			want := wantSeal(bytes.Clone(key), bytes.Clone(nonce), bytes.Clone(with), bytes.Clone(msg))
			if got := seal(t, key, nonce, with, msg); !bytes.Equal(got, want) {
				t.Errorf("%d bytes with %d: %x, wanted %x", m, n, got, want)
			}
			if !bytes.Equal(b, kept) {
				t.Errorf("%d bytes with %d: the memory is %x, was %x", m, n, b, kept)
			}
		}
	}
	// and where with lies behind what is sealed, and the key behind both
	b := make([]byte, 100)
	key, nonce, with := b[50:82], b[82:94], b[36:50]
	copy(b[36:], made(58, 86))
	copy(b, wantSeal(key, nonce, with, []byte("a text of 20 bytes..")))
	open(t, key, nonce, with, b[:36], []byte("a text of 20 bytes.."))
}

func TestWhatIsHandedOutIsNewMemory(t *testing.T) {
	for _, x := range manySizes() {
		if x.key != 32 || x.nonce != 12 {
			continue
		}
		list, ins := wholes(x)
		want := map[string][]byte{"Seal": bytes.Clone(ins[4]), "Open": bytes.Clone(ins[3])}
		first := calls(ins[0], ins[1], ins[2], ins[3], ins[4])
		second := calls(ins[0], ins[1], ins[2], ins[3], ins[4])
		for _, whole := range list {
			fill(whole)
		}
		for name, got := range first {
			if !bytes.Equal(got, want[name]) {
				t.Errorf("%s, %v: it changes with what was handed in", name, x)
			}
			fill(got)
			if !bytes.Equal(second[name], want[name]) {
				t.Errorf("%s, %v: it changes with what was handed out ahead of it", name, x)
			}
		}
	}
}

func TestNonceIsNewMemory(t *testing.T) {
	first, second := Nonce(258), Nonce(258)
	fill(first)
	for _, got := range [][]byte{second, Nonce(258)} {
		if hex.EncodeToString(got) != "000000000000000000000102" {
			t.Errorf("%x: it changes with what was handed out ahead of it", got)
		}
		if spare := got[len(got):cap(got)]; len(bytes.Trim(spare, "\x00")) != 0 {
			t.Errorf("its spare room holds %x", spare)
		}
	}
}

func TestWhatLiesBehindALengthDoesNotCount(t *testing.T) {
	for _, x := range manySizes() {
		_, ins := wholes(x)
		list, others := wholes(x)
		for i := range list {
			fill(list[i][len(others[i]):])
		}
		want := calls(ins[0], ins[1], ins[2], ins[3], ins[4])
		for name, got := range calls(others[0], others[1], others[2], others[3], others[4]) {
			if !bytes.Equal(got, want[name]) {
				t.Errorf("%s, %v: it changes with the spare room of what was handed in", name, x)
			}
			if spare := got[len(got):cap(got)]; len(bytes.Trim(spare, "\x00")) != 0 {
				t.Errorf("%s, %v: its spare room holds %x", name, x, spare)
			}
		}
	}
}
