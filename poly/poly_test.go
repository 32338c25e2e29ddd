package poly

import (
	"bytes"
	"encoding/hex"
	"math/big"
	"slices"
	"strings"
	"testing"

	"carcanet/api"
)

// made answers so many bytes without a plain order, the same ones for the same seed.
func made(length int, seed byte) []byte {
	b := make([]byte, length)
	state := uint32(seed)*2654435761 + 1
	for i := range b {
		state = state*1664525 + 1013904223
		b[i] = byte(state>>24) ^ seed
	}
	return b
}

// unhex answers the bytes that a text of hex digits is.
func unhex(t testing.TB, text string) []byte {
	t.Helper()
	b, err := hex.DecodeString(text)
	if err != nil {
		t.Fatal(err)
	}
	return b
}

// rising answers so many bytes from 0 on, each one above the one ahead of it.
func rising(many int) []byte {
	b := make([]byte, many)
	for i := range b {
		b[i] = byte(i)
	}
	return b
}

// all answers so many bytes that are one.
func all(b byte, many int) []byte { return bytes.Repeat([]byte{b}, many) }

// nothings answers the ways in which no bytes may come in.
func nothings() [][]byte {
	return [][]byte{nil, {}, make([]byte, 0, 100), []byte("abc")[:0]}
}

// lengths answers lengths of messages at the edges of blocks.
func lengths() []int {
	return []int{0, 1, 2, 15, 16, 17, 31, 32, 33, 47, 48, 49, 63, 64, 65, 1000, 2048}
}

// wrongKeys answers lengths of keys that are refused.
func wrongKeys() []int {
	many := []int{0, 31, 33, 32 + 256, 32 + 65536}
	for n := range 300 {
		if n != 32 {
			many = append(many, n)
		}
	}
	return many
}

// edgeKeys answers keys at the edges of bytes and parts, and some without a plain order.
func edgeKeys() [][]byte {
	keys := [][]byte{make([]byte, 32), all(255, 32), rising(32)}
	halves := [][]byte{make([]byte, 16), all(255, 16), append([]byte{1}, make([]byte, 15)...), append(make([]byte, 15), 255), all(15, 16), all(128, 16)}
	for _, r := range halves {
		for _, s := range halves {
			keys = append(keys, slices.Concat(r, s))
		}
	}
	for seed := range 20 {
		keys = append(keys, made(32, byte(seed)))
	}
	return keys
}

// two answers 2 to the power of n.
func two(n uint) *big.Int { return new(big.Int).Lsh(big.NewInt(1), n) }

// modulus answers 2^130 - 5.
func modulus() *big.Int { return new(big.Int).Sub(two(130), big.NewInt(5)) }

// numberOf answers the number of bytes, the lowest first.
func numberOf(b []byte) *big.Int {
	highest := bytes.Clone(b)
	slices.Reverse(highest)
	return new(big.Int).SetBytes(highest)
}

// bytesOf answers so many bytes of a number, the lowest first.
func bytesOf(n *big.Int, many int) []byte {
	b := n.FillBytes(make([]byte, many))
	slices.Reverse(b)
	return b
}

// wantClamp answers Clamp's bytes by the chapter's words.
func wantClamp(r []byte) []byte {
	if len(r) < 16 {
		return nil
	}
	want := bytes.Clone(r[:16])
	for _, at := range []int{3, 7, 11, 15} {
		want[at] = byte(int(r[at]) % 16)
	}
	for _, at := range []int{4, 8, 12} {
		want[at] = byte(int(r[at]) - int(r[at])%4)
	}
	return want
}

// wantSum answers the number of a message, under a factor, by the chapter's words, ahead of the key's other 16 bytes.
func wantSum(factor *big.Int, msg []byte) *big.Int {
	sum := new(big.Int)
	for at := 0; at < len(msg); at += 16 {
		block := append(bytes.Clone(msg[at:min(at+16, len(msg))]), 1)
		sum.Add(sum, numberOf(block))
		sum.Mul(sum, factor)
		sum.Mod(sum, modulus())
	}
	return sum
}

// wantTag answers Tag's bytes by the chapter's words, under a key of 32 bytes.
func wantTag(key, msg []byte) []byte {
	sum := wantSum(numberOf(wantClamp(key[:16])), msg)
	sum.Add(sum, numberOf(key[16:]))
	return bytesOf(sum.Mod(sum, two(128)), 16)
}

// tagged answers Tag's bytes, under a key that must not be refused.
func tagged(t *testing.T, key, msg []byte) []byte {
	t.Helper()
	tag, e := Tag(key, msg)
	if e != api.OK || len(tag) != 16 {
		t.Fatalf("a key of %d bytes, a message of %d: %d bytes, error %d", len(key), len(msg), len(tag), e)
	}
	return tag
}

// right asks that a message's tag is that of the chapter's words, and is taken.
func right(t *testing.T, key, msg []byte) {
	t.Helper()
	tag := tagged(t, key, msg)
	if want := wantTag(key, msg); !bytes.Equal(tag, want) {
		t.Errorf("%x, %x: %x, wanted %x", key, msg, tag, want)
	}
	if !Check(key, msg, tag) {
		t.Errorf("%x, %x: %x is refused", key, msg, tag)
	}
}

// refused asks that a key is refused, and that no tag is one under it.
func refused(t *testing.T, key, msg []byte) {
	t.Helper()
	tag, e := Tag(key, msg)
	if e != api.ErrArg || len(tag) != 0 {
		t.Errorf("a key of %d bytes, a message of %d: %x, error %d", len(key), len(msg), tag, e)
	}
	for _, tag := range [][]byte{nil, {}, tag, make([]byte, 16), all(255, 16), msg, key} {
		if Check(key, msg, tag) {
			t.Errorf("a key of %d bytes, a message of %d: %x is taken", len(key), len(msg), tag)
		}
	}
}

// P7.1

func TestClampThatIsKnown(t *testing.T) {
	for _, x := range []struct{ from, to string }{
		{"85d6be7857556d337f4452fe42d506a8", "85d6be0854556d037c44520e40d50608"}, // RFC 8439, 2.5.2
		{"ffffffffffffffffffffffffffffffff", "ffffff0ffcffff0ffcffff0ffcffff0f"},
		{"00000000000000000000000000000000", "00000000000000000000000000000000"},
		{"0303031003030310030303100303031f", "0303030000030300000303000003030f"},
	} {
		if got := hex.EncodeToString(Clamp(unhex(t, x.from))); got != x.to {
			t.Errorf("%s: %s, wanted %s", x.from, got, x.to)
		}
	}
}

func TestClampOfEachByteAtEachPlace(t *testing.T) {
	for at := range 16 {
		for b := range 256 {
			for _, others := range []byte{0, 255, 0x5a} {
				r := all(others, 16)
				r[at] = byte(b)
				if got, want := Clamp(r), wantClamp(r); !bytes.Equal(got, want) {
					t.Errorf("%x: %x, wanted %x", r, got, want)
				}
			}
		}
	}
}

func TestClampOfFewerBytes(t *testing.T) {
	for n := range 16 {
		if got := Clamp(made(n, 1)); len(got) != 0 {
			t.Errorf("%d bytes: %x", n, got)
		}
		if got := Clamp(made(100, 1)[:n]); len(got) != 0 {
			t.Errorf("%d bytes, with spare room: %x", n, got)
		}
	}
	for i, none := range nothings() {
		if got := Clamp(none); len(got) != 0 {
			t.Errorf("nothing %d: %x", i, got)
		}
	}
}

func TestClampOfMoreBytes(t *testing.T) {
	for _, n := range []int{16, 17, 18, 31, 32, 33, 64, 300, 65536 + 16} {
		for _, r := range [][]byte{made(n, 2), all(255, n)} {
			if got, want := Clamp(r), wantClamp(r); !bytes.Equal(got, want) {
				t.Errorf("%d bytes, of which the first are %x: %x, wanted %x", n, r[:16], got, want)
			}
		}
	}
}

func TestClampTwiceIsClampOnce(t *testing.T) {
	for seed := range 100 {
		once := Clamp(made(16, byte(seed)))
		if twice := Clamp(once); !bytes.Equal(twice, once) {
			t.Errorf("%x becomes %x", once, twice)
		}
	}
}

// P7.2

const (
	noughts = "00000000000000000000000000000000"
	ones    = "ffffffffffffffffffffffffffffffff"
	notice  = "Any submission to the IETF intended by the Contributor for publication as all or part of an IETF Internet-Draft or RFC and any statement made within the context of an IETF activity is considered an \"IETF Contribution\". Such statements include oral statements in IETF sessions, as well as written and electronic communications made at any time or place, which are addressed to"
	brillig = "'Twas brillig, and the slithy toves\nDid gyre and gimble in the wabe:\nAll mimsy were the borogoves,\nAnd the mome raths outgrabe."
)

// The chapter's example (RFC 8439, 2.5.2), the eleven of A.3, and others at the edges of bytes and blocks that another program made.
func TestTagsThatAreKnown(t *testing.T) {
	first, second, both := "01"+noughts[2:], "02"+noughts[2:], "0100000000000000"+"0400000000000000"
	one := "36e5f6b5c5e06070f0efca96227a863e"
	for i, x := range []struct{ key, msg, tag string }{
		{"85d6be7857556d337f4452fe42d506a80103808afb0db2fd4abff6af4149f51b", "Cryptographic Forum Research Group", "a8061dc1305136c6c22b8baf0c0127a9"},
		{noughts + noughts, string(make([]byte, 64)), noughts},
		{noughts + one, notice, one},
		{one + noughts, notice, "f3477e7cd95417af89a6b8794c310cf0"},
		{"1c9240a5eb55d38af333888604f6b5f0473917c1402b80099dca5cbc207075c0", brillig, "4541669a7eaaee61e708dc7cbcc5eb62"},
		{second + noughts, string(all(255, 16)), "03" + noughts[2:]},
		{second + ones, string(unhex(t, second)), "03" + noughts[2:]},
		{first + noughts, string(unhex(t, ones+"f0"+ones[2:]+"11"+noughts[2:])), "05" + noughts[2:]},
		{first + noughts, string(unhex(t, ones+"fb"+strings.Repeat("fe", 15)+strings.Repeat("01", 16))), noughts},
		{second + noughts, string(unhex(t, "fd"+ones[2:])), "fa" + ones[2:]},
		{both + noughts, string(unhex(t, "e33594d7505e43b900000000000000003394d7505e4379cd01000000000000000000000000000000000000000000000001000000000000000000000000000000")), "14000000000000005500000000000000"},
		{both + noughts, string(unhex(t, "e33594d7505e43b900000000000000003394d7505e4379cd010000000000000000000000000000000000000000000000")), "13" + noughts[2:]},
		{ones + ones, "", ones},
		{ones + ones, string(all(255, 1)), "23feffef23f8ffef23f8ffef23f8ffef"},
		{ones + ones, string(all(255, 15)), "fbff27e6030028e6030028e6030028ee"},
		{ones + ones, string(all(255, 16)), "fbffff17faffff17faffff17faffff17"},
		{ones + ones, string(all(255, 17)), "7cfe7ff768f81f2763f8bf565df85f86"},
		{ones + ones, string(all(255, 64)), "900fe32bc15fa8d7bca8efe4c7e37eb1"},
		{ones + ones, string(all(255, 1000)), "de9406b10e7023bcd692ff687f4cbc7f"},
		{hex.EncodeToString(rising(32)), "", "101112131415161718191a1b1c1d1e1f"},
		{hex.EncodeToString(rising(32)), "\x00", "1f11131517191b1d1f21232527292b2d"},
		{hex.EncodeToString(rising(32)), string(rising(33)), "45b320cbeff5d7b485f3487c4d74dadd"},
	} {
		key, msg := unhex(t, x.key), []byte(x.msg)
		if got := hex.EncodeToString(tagged(t, key, msg)); got != x.tag {
			t.Errorf("%d: %s, wanted %s", i, got, x.tag)
		}
		if !Check(key, msg, unhex(t, x.tag)) {
			t.Errorf("%d: %s is refused", i, x.tag)
		}
	}
}

func TestTagByTheChaptersWords(t *testing.T) {
	for i, key := range edgeKeys() {
		for _, n := range lengths() {
			right(t, key, made(n, byte(i)))
			right(t, key, all(0, n))
			right(t, key, all(255, n))
		}
	}
}

func TestTagOfEachLength(t *testing.T) {
	for n := range 150 {
		right(t, made(32, 3), made(n, 4))
		right(t, all(255, 32), all(255, n))
	}
}

func TestTagOfNoBytes(t *testing.T) {
	for i, none := range nothings() {
		for _, key := range edgeKeys() {
			if got := tagged(t, key, none); !bytes.Equal(got, key[16:]) {
				t.Errorf("nothing %d: %x, wanted %x", i, got, key[16:])
			}
		}
	}
}

// A message's last block is told from one with bytes 0 behind it, or with the byte 1 that is put there.
func TestTagTellsWhereAMessageEnds(t *testing.T) {
	key := made(32, 5)
	for n := range 50 {
		msg := made(n, 6)
		tag := tagged(t, key, msg)
		for _, more := range [][]byte{{0}, {1}, {1, 0}, all(0, 16), all(0, 17)} {
			if got := tagged(t, key, append(bytes.Clone(msg), more...)); bytes.Equal(got, tag) {
				t.Errorf("%d bytes, and with %x behind: both %x", n, more, tag)
			}
		}
	}
}

func TestTagOfEachBitOfAKey(t *testing.T) {
	msg := made(40, 7)
	for bit := range 256 {
		for _, others := range [][]byte{make([]byte, 32), all(255, 32), made(32, 8)} {
			key := bytes.Clone(others)
			key[bit/8] ^= 1 << (bit % 8)
			right(t, key, msg)
			same := bit < 128 && bytes.Equal(Clamp(key), Clamp(others)) // those that Clamp clears count for nothing
			if got := bytes.Equal(tagged(t, key, msg), tagged(t, others, msg)); got != same {
				t.Errorf("bit %d of %x: the tag stays: %v, wanted %v", bit, others, got, same)
			}
		}
	}
}

func TestTagOfEachBitOfAMessage(t *testing.T) {
	key := made(32, 9)
	for bit := range 8 * 40 {
		for _, others := range []byte{0, 255} {
			msg := all(others, 40)
			msg[bit/8] ^= 1 << (bit % 8)
			right(t, key, msg)
		}
	}
}

// blocksOf answers three blocks of which the numbers, with a byte 1 behind each, have this sum.
func blocksOf(t *testing.T, sum *big.Int) []byte {
	t.Helper()
	left := new(big.Int).Sub(sum, new(big.Int).Mul(big.NewInt(3), two(128)))
	var msg []byte
	for range 3 {
		block := new(big.Int).Sub(two(128), big.NewInt(1))
		if left.Cmp(block) < 0 {
			block.Set(left)
		}
		msg = append(msg, bytesOf(block, 16)...)
		left.Sub(left, block)
	}
	if left.Sign() != 0 {
		t.Fatalf("%x is no sum of three blocks", sum)
	}
	return msg
}

// Under the factor 1 a sum of three blocks comes to the modulus, to numbers beside it, and to numbers beside 2^130.
func TestTagOfSumsAtTheModulus(t *testing.T) {
	key := make([]byte, 32)
	key[0] = 1
	for off := int64(-300); off <= 300; off++ {
		sum := new(big.Int).Add(modulus(), big.NewInt(off))
		want := new(big.Int).Mod(sum, modulus())
		if got := tagged(t, key, blocksOf(t, sum)); !bytes.Equal(got, bytesOf(want.Mod(want, two(128)), 16)) {
			t.Errorf("the modulus and %d: %x, wanted %x", off, got, want)
		}
		right(t, key, blocksOf(t, sum))
	}
}

// lastBlock answers a block that, behind a message, brings the number to a wanted one, and whether there is one.
func lastBlock(factor, want *big.Int, msg []byte) ([]byte, bool) {
	back := new(big.Int).ModInverse(factor, modulus())
	if back == nil {
		return nil, false
	}
	block := new(big.Int).Mul(want, back)
	block.Sub(block, wantSum(factor, msg))
	block.Mod(block, modulus())
	block.Sub(block, two(128))
	if block.Sign() < 0 || block.Cmp(two(128)) >= 0 {
		return nil, false
	}
	return bytesOf(block, 16), true
}

// brought answers a message that under a key comes to a number, ahead of the key's other 16 bytes.
func brought(t *testing.T, key []byte, want *big.Int) []byte {
	t.Helper()
	factor := numberOf(wantClamp(key[:16]))
	for seed := range 100 {
		msg := made(32, byte(seed))
		if block, ok := lastBlock(factor, want, msg); ok {
			msg = append(msg, block...)
			if wantSum(factor, msg).Cmp(want) != 0 {
				t.Fatalf("%x: it does not come to %x", msg, want)
			}
			return msg
		}
	}
	t.Fatalf("%x: no message comes to %x", key, want)
	return nil
}

// edgeNumbers answers numbers below the modulus at its ends, at 2^128 and its multiples, and at the ends of parts.
func edgeNumbers() []*big.Int {
	var numbers []*big.Int
	for off := int64(-10); off <= 10; off++ {
		for _, n := range []*big.Int{new(big.Int), two(26), two(52), two(64), two(78), two(104), two(128), two(129), new(big.Int).Mul(big.NewInt(3), two(128)), modulus()} {
			n.Add(n, big.NewInt(off))
			if n.Sign() >= 0 && n.Cmp(modulus()) < 0 {
				numbers = append(numbers, n)
			}
		}
	}
	return numbers
}

// Under any factor a number comes to each edge; then the key's other 16 bytes are put to it, which reach 2^128 or stay below.
func TestTagOfNumbersAtTheEdges(t *testing.T) {
	for seed := range 5 {
		for _, want := range edgeNumbers() {
			key := made(32, byte(seed))
			msg := brought(t, key, want)
			low := new(big.Int).Mod(want, two(128))
			gap := new(big.Int).Sub(two(128), low)
			for _, other := range []*big.Int{new(big.Int), big.NewInt(1), new(big.Int).Sub(gap, big.NewInt(1)), gap, new(big.Int).Add(gap, big.NewInt(1)), new(big.Int).Sub(two(128), big.NewInt(1))} {
				copy(key[16:], bytesOf(new(big.Int).Mod(other, two(128)), 16))
				sum := new(big.Int).Add(low, numberOf(key[16:]))
				if got := tagged(t, key, msg); !bytes.Equal(got, bytesOf(sum.Mod(sum, two(128)), 16)) {
					t.Errorf("%x, %x: %x, wanted %x", key, want, got, sum)
				}
				right(t, key, msg)
			}
		}
	}
}

// Of a long message each product is one that was made of another: room that is too small for one shows.
func TestTagOfALongMessage(t *testing.T) {
	for _, key := range [][]byte{all(255, 32), made(32, 10)} {
		right(t, key, all(255, 1<<16))
		right(t, key, made(1<<16+5, 11))
	}
}

func TestTagUnderAWrongKey(t *testing.T) {
	for _, n := range wrongKeys() {
		for _, m := range []int{0, 1, 16, 17, 32, 64} {
			refused(t, made(n, 12), made(m, 13))
		}
		refused(t, make([]byte, n), nil)
		refused(t, made(n+100, 12)[:n], made(100, 13)[:5])
	}
	for _, none := range nothings() {
		for _, msg := range nothings() {
			refused(t, none, msg)
		}
	}
}

// A refused call leaves nothing behind: the next one answers what it would have.
func TestARefusedCallChangesNothing(t *testing.T) {
	key, msg := made(32, 14), made(50, 15)
	want := wantTag(key, msg)
	for _, n := range []int{0, 16, 31} {
		Tag(key[:n], msg)
		Check(key[:n], msg, want)
		Clamp(key[:min(n, 15)])
		if got := tagged(t, key, msg); !bytes.Equal(got, want) || !Check(key, msg, want) {
			t.Errorf("behind a key of %d bytes: %x, wanted %x", n, got, want)
		}
	}
}

// parts answers a number below 2^130, as the five parts of a number.
func parts(n *big.Int) number {
	var a number
	for i := range a {
		part := new(big.Int).Rsh(n, uint(26*i))
		a[i] = part.Mod(part, two(26)).Uint64()
	}
	return a
}

// whole answers the number that five parts are.
func whole(a number) *big.Int {
	n := new(big.Int)
	for i, part := range a {
		n.Add(n, new(big.Int).Mul(new(big.Int).SetUint64(part), two(uint(26*i))))
	}
	return n
}

// The rest is told of all numbers that products come to: those below 2^130, of which the lowest part may have 5 more.
func TestRestOfNumbersUpTo2To130(t *testing.T) {
	for off := int64(-300); off < 5; off++ {
		n := new(big.Int).Add(modulus(), big.NewInt(off))
		for more := range uint64(6) {
			a := parts(new(big.Int).Sub(n, new(big.Int).SetUint64(more)))
			a[0] += more
			if got, want := rest(a), parts(new(big.Int).Mod(n, modulus())); got != want {
				t.Errorf("the modulus and %d, %d of it in the lowest part: %x, wanted %x", off, more, got, want)
			}
		}
	}
	for _, n := range edgeNumbers() {
		if got := rest(parts(n)); got != parts(n) {
			t.Errorf("%x: %x", n, got)
		}
	}
}

// The greatest factors come to no more than what rest and the next product have room for.
func TestTimesOfTheGreatestParts(t *testing.T) {
	most := number{2*partMost + 5, 2 * partMost, 2 * partMost, 2 * partMost, 2 * partMost}
	factors := []number{{partMost, partMost, partMost, partMost, partMost}, parts(numberOf(Clamp(all(255, 16)))), {1}, {}}
	for _, n := range edgeNumbers() {
		factors = append(factors, parts(n))
	}
	for _, a := range append(factors, most) {
		for _, b := range factors {
			got := times(a, b)
			want := new(big.Int).Mul(whole(a), whole(b))
			if want.Mod(want, modulus()); new(big.Int).Mod(whole(got), modulus()).Cmp(want) != 0 {
				t.Errorf("%x, %x: %x, wanted %x", a, b, got, want)
			}
			if whole(got).Cmp(two(130)) >= 0 || got[0] > partMost+5 || slices.Max(got[1:]) > partMost {
				t.Errorf("%x, %x: %x holds too much", a, b, got)
			}
		}
	}
}

// P7.3

func TestCheckOfARightTag(t *testing.T) {
	for i, key := range edgeKeys() {
		for _, n := range lengths() {
			msg := made(n, byte(i))
			if !Check(key, msg, wantTag(key, msg)) {
				t.Errorf("%x, %d bytes: the tag is refused", key, n)
			}
		}
	}
}

func TestCheckOfATagOfAnotherLength(t *testing.T) {
	for _, n := range lengths() {
		key, msg := made(32, 16), made(n, 17)
		long := append(wantTag(key, msg), made(300, 18)...)
		for m := range long {
			if got := Check(key, msg, long[:m]); got != (m == 16) {
				t.Errorf("a message of %d bytes, a tag of %d: %v", n, m, got)
			}
		}
		for i, none := range nothings() {
			if Check(key, msg, none) {
				t.Errorf("a message of %d bytes: nothing %d is taken", n, i)
			}
		}
		for _, tag := range [][]byte{append(long[:16:16], 0), append([]byte{0}, long[:16]...), long[1:16], long[1:17]} {
			if Check(key, msg, tag) {
				t.Errorf("a message of %d bytes: %x is taken for %x", n, tag, long[:16])
			}
		}
	}
}

// A tag that ends with bytes 0 is not one of fewer bytes, nor of more.
func TestCheckOfATagOfNoughts(t *testing.T) {
	key := make([]byte, 32)
	for n := range 40 {
		if got := Check(key, made(n, 19), make([]byte, n)); got != (n == 16) {
			t.Errorf("%d bytes 0: %v", n, got)
		}
	}
}

func TestCheckUnderAWrongKey(t *testing.T) {
	key := make([]byte, 400)
	copy(key, made(32, 20))
	for _, n := range lengths() {
		msg := made(n, 21)
		tag := wantTag(key[:32], msg)
		for m := range key {
			if got := Check(key[:m], msg, tag); got != (m == 32) {
				t.Errorf("a message of %d bytes, a key of %d: %v", n, m, got)
			}
		}
	}
}

func TestCheckOfAnotherKeyOrMessage(t *testing.T) {
	key, msg := made(32, 22), made(48, 23)
	tag := wantTag(key, msg)
	for i := range 48 {
		other := bytes.Clone(msg)
		other[i] ^= 1
		if Check(key, other, tag) {
			t.Errorf("another message, of which byte %d is changed, has the same tag", i)
		}
	}
	for i := range 32 {
		other := bytes.Clone(key)
		other[i] ^= 4 // no bit that Clamp clears
		if Check(other, msg, tag) {
			t.Errorf("another key, of which byte %d is changed, has the same tag", i)
		}
	}
	for _, other := range [][]byte{msg[:47], msg[1:], append(bytes.Clone(msg), 0), append(bytes.Clone(msg), all(0, 16)...), slices.Concat(msg[16:32], msg[:16], msg[32:]), nil} {
		if Check(key, other, tag) {
			t.Errorf("another message, of %d bytes, has the same tag", len(other))
		}
	}
}

// P7.4

// follows asks of a key and a message all that the chapter says follows.
func follows(t *testing.T, key, msg []byte) {
	t.Helper()
	tag := tagged(t, key, msg)
	for at := range tag {
		for _, by := range []byte{1, 2, 16, 128, 255} {
			changed := bytes.Clone(tag)
			changed[at] ^= by
			if Check(key, msg, changed) {
				t.Errorf("%x, %x: %x is taken for %x", key, msg, changed, tag)
			}
		}
	}
	bare := append(make([]byte, 16), key[16:]...)
	if got := tagged(t, bare, msg); !bytes.Equal(got, key[16:]) || !Check(bare, msg, key[16:]) {
		t.Errorf("%x, %x: %x, wanted the key's other 16 bytes", bare, msg, got)
	}
}

func TestWhatFollows(t *testing.T) {
	for i, key := range edgeKeys() {
		for _, n := range lengths() {
			follows(t, key, made(n, byte(i)))
			follows(t, key, all(255, n))
		}
	}
}

func TestEachChangedByteIsTold(t *testing.T) {
	key, msg := made(32, 24), made(20, 25)
	tag := wantTag(key, msg)
	for at := range 16 {
		for b := range 256 {
			changed := bytes.Clone(tag)
			changed[at] = byte(b)
			if got := Check(key, msg, changed); got != (changed[at] == tag[at]) {
				t.Errorf("byte %d is %d, of the tag %d: %v", at, b, tag[at], got)
			}
		}
	}
	// and where bytes are changed so that what they differ in adds up to nothing
	for at := range 15 {
		changed := bytes.Clone(tag)
		changed[at] ^= 64
		changed[at+1] ^= 64
		if Check(key, msg, changed) {
			t.Errorf("%x is taken for %x", changed, tag)
		}
	}
}

func FuzzWhatFollows(f *testing.F) {
	f.Add(make([]byte, 32), []byte{}, []byte{})
	f.Add(made(32, 1), []byte("abc"), made(16, 2))
	f.Add(made(31, 3), made(16, 4), made(16, 5))
	f.Add(made(33, 6), made(17, 7), made(15, 8))
	f.Add(all(255, 32), all(255, 64), all(255, 17))
	f.Add(append([]byte{1}, make([]byte, 31)...), unhex(f, ones+"fb"+strings.Repeat("fe", 15)+strings.Repeat("01", 16)), make([]byte, 16))
	f.Fuzz(func(t *testing.T, key, msg, tag []byte) {
		if got, want := Clamp(key), wantClamp(key); !bytes.Equal(got, want) {
			t.Errorf("%x: Clamp is %x, wanted %x", key, got, want)
		}
		if len(key) != 32 {
			refused(t, key, msg)
			return
		}
		right(t, key, msg)
		if got, want := Check(key, msg, tag), bytes.Equal(tag, wantTag(key, msg)); got != want {
			t.Errorf("%x, %x, %x: Check is %v", key, msg, tag, got)
		}
		follows(t, key, msg)
	})
}

// Rules 4, 5 and 8: what is handed in stays as it was, what is handed out is new memory, what lies behind a length does not count, and nothing is kept.

// calls answers what each call that hands out bytes makes of a key and a message.
func calls(key, msg []byte) map[string][]byte {
	tag, _ := Tag(key, msg)
	return map[string][]byte{"Clamp of the key": Clamp(key), "Clamp of the message": Clamp(msg), "Tag": tag}
}

// fill writes over all of b's memory, its spare room too.
func fill(b []byte) {
	b = b[:cap(b)]
	for i := range b {
		b[i] ^= 0xa5
	}
}

func TestWhatIsHandedInStaysAsItWas(t *testing.T) {
	for _, n := range lengths() {
		for _, m := range []int{32, 0, 15, 16, 31, 33} {
			wholes := [][]byte{made(100, 26), made(n+200, 27), made(100, 28)}
			kept := [][]byte{bytes.Clone(wholes[0]), bytes.Clone(wholes[1]), bytes.Clone(wholes[2])}
			key, msg := wholes[0][:m], wholes[1][:n]
			Check(key, msg, wholes[2][:16])
			Check(wholes[1][:m], msg, wholes[1][:16])
			for _, got := range calls(key, msg) {
				fill(got)
			}
			// and where one memory is both of them
			for _, got := range calls(wholes[1][:m], msg) {
				fill(got)
			}
			for i, whole := range wholes {
				if !bytes.Equal(whole, kept[i]) {
					t.Errorf("a key of %d bytes, a message of %d: argument %d: %x, was %x", m, n, i, whole, kept[i])
				}
			}
		}
	}
}

func TestOneMemoryForAllThatIsHandedIn(t *testing.T) {
	for _, n := range lengths() {
		b := made(n+48, 29)
		key, msg := b[8:40], b[:n]
		want := wantTag(bytes.Clone(key), bytes.Clone(msg))
		if got := tagged(t, key, msg); !bytes.Equal(got, want) {
			t.Errorf("%d bytes: %x, wanted %x", n, got, want)
		}
		if Check(key, msg, b[8:24]) != bytes.Equal(b[8:24], want) {
			t.Errorf("%d bytes: the key's own bytes are taken for its tag", n)
		}
	}
	// and where the tag is the key's other half, and the message too
	b := append(make([]byte, 16), made(16, 30)...)
	if !Check(b, b[16:], b[16:]) {
		t.Error("a tag that is of the key's memory is refused")
	}
}

func TestWhatIsHandedOutIsNewMemory(t *testing.T) {
	for _, n := range lengths() {
		key, msg := made(32, 31), made(n, 32)
		want := map[string][]byte{"Clamp of the key": wantClamp(key), "Clamp of the message": wantClamp(msg), "Tag": wantTag(key, msg)}
		first, second := calls(key, msg), calls(key, msg)
		fill(key)
		fill(msg)
		for name, got := range first {
			if !bytes.Equal(got, want[name]) {
				t.Errorf("%s, %d bytes: it changes with what was handed in", name, n)
			}
			fill(got)
			if !bytes.Equal(second[name], want[name]) {
				t.Errorf("%s, %d bytes: it changes with what was handed out ahead of it", name, n)
			}
		}
	}
}

func TestWhatLiesBehindALengthDoesNotCount(t *testing.T) {
	for _, n := range lengths() {
		ins, others := [3][]byte{made(100, 33), made(n+100, 34), made(100, 35)}, [3][]byte{}
		copy(ins[2], wantTag(ins[0][:32], ins[1][:n]))
		for i, length := range []int{32, n, 16} {
			others[i] = bytes.Clone(ins[i])
			fill(others[i][length:])
			ins[i], others[i] = ins[i][:length], others[i][:length]
		}
		want := calls(ins[0], ins[1])
		for name, got := range calls(others[0], others[1]) {
			if !bytes.Equal(got, want[name]) {
				t.Errorf("%s, %d bytes: it changes with the spare room of what was handed in", name, n)
			}
			if spare := got[len(got):cap(got)]; len(bytes.Trim(spare, "\x00")) != 0 {
				t.Errorf("%s, %d bytes: its spare room holds %x", name, n, spare)
			}
		}
		if !Check(ins[0], ins[1], ins[2]) || !Check(others[0], others[1], others[2]) {
			t.Errorf("%d bytes: Check changes with the spare room of what was handed in", n)
		}
	}
}
