package cipher

import (
	"bytes"
	"encoding/binary"
	"encoding/hex"
	"math"
	"math/bits"
	"strings"
	"testing"

	"carcanet/api"
)

// made answers so many bytes without a plain order, the same ones for the same seed.
func made(length int, seed byte) []byte {
	b := make([]byte, length)
	state := uint32(seed)*2654435761 + 1
	for i := range b {
		state = state*1664525 + 1013904223
		b[i] = byte(state>>24) ^ seed
	}
	return b
}

// unhex answers the bytes that a text of hex digits is.
func unhex(t *testing.T, text string) []byte {
	t.Helper()
	b, err := hex.DecodeString(text)
	if err != nil {
		t.Fatal(err)
	}
	return b
}

// rising answers so many bytes from the first one on, each one above the one ahead of it.
func rising(first, many int) []byte {
	b := make([]byte, many)
	for i := range b {
		b[i] = byte(first + i)
	}
	return b
}

// nothings answers the ways in which no bytes may come in.
func nothings() [][]byte {
	return [][]byte{nil, {}, make([]byte, 0, 100), []byte("abc")[:0]}
}

// lengths answers lengths of messages at the edges of blocks.
func lengths() []int {
	return []int{0, 1, 2, 31, 32, 63, 64, 65, 127, 128, 129, 191, 192, 193, 1000}
}

// manyCounters answers counters from which on there are Blocks enough for the longest of lengths, at the edges of their bytes.
func manyCounters() []uint32 {
	return []uint32{0, 1, 2, 42, 255, 256, 65535, 65536, 1<<24 - 1, 1 << 24, 0x01020304, 1<<26 - 1, 1 << 26, 3 << 26, 1<<31 - 1, 1 << 31, 1<<32 - 1000, 1<<32 - 16}
}

// lastCounters answers the counters behind which there are at most two.
func lastCounters() []uint32 {
	return []uint32{math.MaxUint32 - 2, math.MaxUint32 - 1, math.MaxUint32}
}

// wrong is how many bytes a key and a nonce have that are refused.
type wrong struct{ key, nonce int }

// wrongs answers keys and nonces at each side of what they must be, and each alone that is right.
func wrongs() []wrong {
	all := []wrong{{0, 0}, {12, 32}, {31, 11}, {31, 13}, {33, 11}, {33, 13}, {16, 8}, {24, 24}, {32 + 256, 12 + 256}}
	for n := range 300 {
		if n != 32 {
			all = append(all, wrong{n, 12})
		}
		if n != 12 {
			all = append(all, wrong{32, n})
		}
	}
	return append(all, wrong{65536 + 32, 12}, wrong{32, 65536 + 12})
}

// left answers a word, turned round to the left by k places: times 2^k, and what goes beyond 2^32 at the other end.
func left(word uint64, k int) uint64 {
	word <<= k
	return word%(1<<32) + word/(1<<32)
}

// wantQuarter answers the four words by the chapter's words, with numbers that have room for their sums.
func wantQuarter(x [4]uint32) [4]uint32 {
	a, b, c, d := uint64(x[0]), uint64(x[1]), uint64(x[2]), uint64(x[3])
	for time, k := range []int{16, 12, 8, 7} {
		if time == 0 || time == 2 {
			a = (a + b) % (1 << 32)
			d = left(d^a, k)
		} else {
			c = (c + d) % (1 << 32)
			b = left(b^c, k)
		}
	}
	return [4]uint32{uint32(a), uint32(b), uint32(c), uint32(d)}
}

// wantBlock answers the 64 bytes by the chapter's words.
func wantBlock(key, nonce []byte, counter uint32) []byte {
	all := unhexWords("61707865", "3320646e", "79622d32", "6b206574")
	for i := 0; i < 32; i += 4 {
		all = append(all, binary.LittleEndian.Uint32(key[i:]))
	}
	all = append(all, counter)
	for i := 0; i < 12; i += 4 {
		all = append(all, binary.LittleEndian.Uint32(nonce[i:]))
	}
	places := [8][4]int{{0, 4, 8, 12}, {1, 5, 9, 13}, {2, 6, 10, 14}, {3, 7, 11, 15}, {0, 5, 10, 15}, {1, 6, 11, 12}, {2, 7, 8, 13}, {3, 4, 9, 14}}
	changed := bytesOf(all)
	for range 10 {
		for _, p := range places {
			var four [4]uint32
			for i, at := range p {
				four[i] = binary.LittleEndian.Uint32(changed[4*at:])
			}
			for i, word := range wantQuarter(four) {
				binary.LittleEndian.PutUint32(changed[4*p[i]:], word)
			}
		}
	}
	for i, word := range all {
		all[i] = uint32((uint64(word) + uint64(binary.LittleEndian.Uint32(changed[4*i:]))) % (1 << 32))
	}
	return bytesOf(all)
}

// unhexWords answers words of their hex digits.
func unhexWords(texts ...string) []uint32 {
	var words []uint32
	for _, text := range texts {
		b, _ := hex.DecodeString(text)
		words = append(words, binary.BigEndian.Uint32(b))
	}
	return words
}

// bytesOf answers words as bytes, the lowest first.
func bytesOf(words []uint32) []byte {
	var b []byte
	for _, word := range words {
		b = binary.LittleEndian.AppendUint32(b, word)
	}
	return b
}

// wantXor answers the message, changed by the chapter's words.
func wantXor(key, nonce []byte, counter uint32, msg []byte) []byte {
	var blocks []byte
	for at := 0; at < len(msg); at += 64 {
		blocks = append(blocks, wantBlock(key, nonce, counter+uint32(at/64))...)
	}
	changed := make([]byte, len(msg))
	for i, b := range msg {
		changed[i] = b ^ blocks[i]
	}
	return changed
}

// quarter answers Quarter's words as an array.
func quarter(x [4]uint32) [4]uint32 {
	a, b, c, d := Quarter(x[0], x[1], x[2], x[3])
	return [4]uint32{a, b, c, d}
}

// block answers Block's bytes, of a key and a nonce that must not be refused.
func block(t *testing.T, key, nonce []byte, counter uint32) []byte {
	t.Helper()
	b, e := Block(key, nonce, counter)
	if e != api.OK || len(b) != 64 {
		t.Fatalf("Block of %d: %d bytes, error %d", counter, len(b), e)
	}
	return b
}

// xor answers Xor's bytes, of a message that must not be refused.
func xor(t *testing.T, key, nonce []byte, counter uint32, msg []byte) []byte {
	t.Helper()
	b, e := Xor(key, nonce, counter, msg)
	if e != api.OK || len(b) != len(msg) {
		t.Fatalf("Xor of %d, %d bytes: %d bytes, error %d", counter, len(msg), len(b), e)
	}
	return b
}

// refused asks that Xor refuses a message by this error, and answers no bytes.
func refused(t *testing.T, key, nonce []byte, counter uint32, msg []byte, want api.Errno) {
	t.Helper()
	if b, e := Xor(key, nonce, counter, msg); e != want || len(b) != 0 {
		t.Errorf("a key of %d bytes, a nonce of %d, counter %d, %d bytes: %d bytes, error %d, wanted %d", len(key), len(nonce), counter, len(msg), len(b), e, want)
	}
}

// P6.1

// The chapter's example (RFC 8439, 2.1.1), the one of 2.2.1, and words that are 0.
func TestQuarterOfKnownWords(t *testing.T) {
	for _, x := range []struct{ from, to [4]uint32 }{
		{[4]uint32{0x11111111, 0x01020304, 0x9b8d6f43, 0x01234567}, [4]uint32{0xea2a92f4, 0xcb1cf8ce, 0x4581472e, 0x5881c4bb}},
		{[4]uint32{0x516461b1, 0x2a5f714c, 0x53372767, 0x3d631689}, [4]uint32{0xbdb886dc, 0xcfacafd2, 0xe46bea80, 0xccc07c79}},
		{[4]uint32{}, [4]uint32{}},
	} {
		if got := quarter(x.from); got != x.to {
			t.Errorf("%08x: %08x, wanted %08x", x.from, got, x.to)
		}
	}
}

// words answers numbers of 32 bits at the edges of their range, and some without a plain order.
func words() []uint32 {
	return []uint32{0, 1, 2, 0x7fffffff, 0x80000000, 0x80000001, 0xfffffffe, 0xffffffff, 0x01020304, 0x9e3779b9, 0xdeadbeef}
}

func TestQuarterOfAnyWords(t *testing.T) {
	for _, a := range words() {
		for _, b := range words() {
			for _, c := range words() {
				for _, d := range words() {
					from := [4]uint32{a, b, c, d}
					if got, want := quarter(from), wantQuarter(from); got != want {
						t.Fatalf("%08x: %08x, wanted %08x", from, got, want)
					}
				}
			}
		}
	}
}

func TestQuarterOfEachBit(t *testing.T) {
	seen := map[[4]uint32]int{{}: -1}
	for bit := range 128 {
		var from [4]uint32
		from[bit/32] = 1 << (bit % 32)
		got := quarter(from)
		if want := wantQuarter(from); got != want {
			t.Errorf("bit %d: %08x, wanted %08x", bit, got, want)
		}
		if other, met := seen[got]; met {
			t.Errorf("bits %d and %d come to the same", bit, other)
		}
		seen[got] = bit
	}
}

// back answers what Quarter was handed, of what it answered.
func back(x [4]uint32) [4]uint32 {
	a, b, c, d := x[0], x[1], x[2], x[3]
	b = bits.RotateLeft32(b, -7) ^ c
	c -= d
	d = bits.RotateLeft32(d, -8) ^ a
	a -= b
	b = bits.RotateLeft32(b, -12) ^ c
	c -= d
	d = bits.RotateLeft32(d, -16) ^ a
	a -= b
	return [4]uint32{a, b, c, d}
}

func TestQuarterMayBeGoneBack(t *testing.T) {
	for seed := range 200 {
		b := made(16, byte(seed))
		var from [4]uint32
		for i := range from {
			from[i] = binary.LittleEndian.Uint32(b[4*i:])
		}
		if got := back(quarter(from)); got != from {
			t.Errorf("%08x: %08x", from, got)
		}
	}
}

// P6.2

// RFC 8439's cases (2.3.2, and A.1's five), and others at the edges of counters and words that openssl made.
func TestBlocksThatAreKnown(t *testing.T) {
	none, no := make([]byte, 32), make([]byte, 12)
	for i, x := range []struct {
		key, nonce []byte
		counter    uint32
		want       string
	}{
		{rising(0, 32), unhex(t, "000000090000004a00000000"), 1, "10f1e7e4d13b5915500fdd1fa32071c4c7d1f4c733c068030422aa9ac3d46c4ed2826446079faa0914c2d705d98b02a2b5129cd1de164eb9cbd083e8a2503c4e"},
		{none, no, 0, "76b8e0ada0f13d90405d6ae55386bd28bdd219b8a08ded1aa836efcc8b770dc7da41597c5157488d7724e03fb8d84a376a43b8f41518a11cc387b669b2ee6586"},
		{none, no, 1, "9f07e7be5551387a98ba977c732d080dcb0f29a048e3656912c6533e32ee7aed29b721769ce64e43d57133b074d839d531ed1f28510afb45ace10a1f4b794d6f"},
		{append(make([]byte, 31), 1), no, 1, "3aeb5224ecf849929b9d828db1ced4dd832025e8018b8160b82284f3c949aa5a8eca00bbb4a73bdad192b5c42f73f2fd4e273644c8b36125a64addeb006c13a0"},
		{append([]byte{0, 255}, make([]byte, 30)...), no, 2, "72d54dfbf12ec44b362692df94137f328fea8da73990265ec1bbbea1ae9af0ca13b25aa26cb4a648cb9b9d1be65b2c0924a66c54d545ec1b7374f4872e99f096"},
		{none, append(make([]byte, 11), 2), 0, "c2c64d378cd536374ae204b9ef933fcd1a8b2288b3dfa49672ab765b54ee27c78a970e0e955c14f3a88e741b97c286f75f8fc299e8148362fa198a39531bed6d"},
		{rising(0, 32), rising(100, 12), 0x01020304, "6e61e5bc3559fddf4f4f119b3037461ce119854d469fc347d356189e1f3813fc2344081cf987ed679ec58105d19cc1661fb222c64f16a9ec03857d31e86f3111"},
		{rising(0, 32), rising(100, 12), math.MaxUint32 - 1, "b736ee6f1c7b6e807130170295015f417d9320e40185e37bd667f172940a1e9f4c2bf9188ec29f40ceda9f9103e4b5d9550b74d47faa825f0fbd9af61f136cbe"},
		{rising(0, 32), rising(100, 12), math.MaxUint32, "af103bcbcd040b5d3b47466b79fa5533ed0407c70f08634c8fc1ab02874bdcc647e8be353132375d396ac064bf144324a58e0905b97791299b149e6a7705ff03"},
		{bytes.Repeat([]byte{255}, 32), bytes.Repeat([]byte{255}, 12), math.MaxUint32, "d72b21cfa4b6b0c41d61f62b8a11159c6a4f63bc56c2035796c7ad37811121bbec56d54a530f3a933dd28a50feb23bfaf64f405be985f3718bdf4683e96be749"},
		{bytes.Repeat([]byte{128, 0, 0, 0}, 8), bytes.Repeat([]byte{0, 0, 0, 128}, 3), 1 << 31, "2c9ba11e88a8a2d126604bcddeafdbe831dd11e8d626bfbd2275385462a620f4f0b6819c1c3105547a36225ae23988070dbf1333577134eb4cbdaa4e0e12c8d3"},
	} {
		if got := hex.EncodeToString(block(t, x.key, x.nonce, x.counter)); got != x.want {
			t.Errorf("%d: %s, wanted %s", i, got, x.want)
		}
	}
}

func TestBlockByTheChaptersWords(t *testing.T) {
	for _, counter := range append(manyCounters(), lastCounters()...) {
		for seed := range 20 {
			key, nonce := made(32, byte(seed)), made(12, byte(seed+100))
			if got, want := block(t, key, nonce, counter), wantBlock(key, nonce, counter); !bytes.Equal(got, want) {
				t.Errorf("seed %d, counter %d: %x, wanted %x", seed, counter, got, want)
			}
		}
	}
}

// Each bit of a key, a counter and a nonce has a place of its own: no two of them make the same block.
func TestBlockOfEachBit(t *testing.T) {
	seen := map[string]int{string(block(t, make([]byte, 32), make([]byte, 12), 0)): -1}
	for bit := range 384 {
		all := make([]byte, 48)
		all[bit/8] = 1 << (bit % 8)
		key, counter, nonce := all[:32], binary.LittleEndian.Uint32(all[32:]), all[36:]
		got := block(t, key, nonce, counter)
		if want := wantBlock(key, nonce, counter); !bytes.Equal(got, want) {
			t.Errorf("bit %d: %x, wanted %x", bit, got, want)
		}
		if other, met := seen[string(got)]; met {
			t.Errorf("bits %d and %d make the same block", bit, other)
		}
		seen[string(got)] = bit
	}
}

func TestBlockOfAWrongKeyOrNonce(t *testing.T) {
	for _, x := range wrongs() {
		for _, counter := range []uint32{0, 1, math.MaxUint32} {
			if b, e := Block(made(x.key, 1), made(x.nonce, 2), counter); e != api.ErrArg || len(b) != 0 {
				t.Errorf("a key of %d bytes, a nonce of %d, counter %d: %d bytes, error %d", x.key, x.nonce, counter, len(b), e)
			}
		}
	}
}

func TestBlockOfNoKeyOrNonce(t *testing.T) {
	for i, none := range nothings() {
		for _, x := range [][2][]byte{{none, none}, {none, make([]byte, 12)}, {make([]byte, 32), none}} {
			if b, e := Block(x[0], x[1], 0); e != api.ErrArg || len(b) != 0 {
				t.Errorf("nothing %d, %d and %d bytes: %d bytes, error %d", i, len(x[0]), len(x[1]), len(b), e)
			}
		}
	}
}

// P6.3

// RFC 8439's texts (2.4.2, and A.2's second and third).
func TestTextsThatAreKnown(t *testing.T) {
	for i, x := range []struct {
		key, nonce string
		counter    uint32
		msg, want  string
	}{
		{
			"000102030405060708090a0b0c0d0e0f101112131415161718191a1b1c1d1e1f", "000000000000004a00000000", 1,
			"Ladies and Gentlemen of the class of '99: If I could offer you only one tip for the future, sunscreen would be it.",
			"6e2e359a2568f98041ba0728dd0d6981e97e7aec1d4360c20a27afccfd9fae0bf91b65c5524733ab8f593dabcd62b3571639d624e65152ab8f530c359f0861d807ca0dbf500d6a6156a38e088a22b65e52bc514d16ccf806818ce91ab77937365af90bbf74a35be6b40b8eedf2785e42874d",
		},
		{
			strings.Repeat("00", 31) + "01", strings.Repeat("00", 11) + "02", 1,
			"Any submission to the IETF intended by the Contributor for publication as all or part of an IETF Internet-Draft or RFC and any statement made within the context of an IETF activity is considered an \"IETF Contribution\". Such statements include oral statements in IETF sessions, as well as written and electronic communications made at any time or place, which are addressed to",
			"a3fbf07df3fa2fde4f376ca23e82737041605d9f4f4f57bd8cff2c1d4b7955ec2a97948bd3722915c8f3d337f7d370050e9e96d647b7c39f56e031ca5eb6250d4042e02785ececfa4b4bb5e8ead0440e20b6e8db09d881a7c6132f420e52795042bdfa7773d8a9051447b3291ce1411c680465552aa6c405b7764d5e87bea85ad00f8449ed8f72d0d662ab052691ca66424bc86d2df80ea41f43abf937d3259dc4b2d0dfb48a6c9139ddd7f76966e928e635553ba76c5c879d7b35d49eb2e62b0871cdac638939e25e8a1e0ef9d5280fa8ca328b351c3c765989cbcf3daa8b6ccc3aaf9f3979c92b3720fc88dc95ed84a1be059c6499b9fda236e7e818b04b0bc39c1e876b193bfe5569753f88128cc08aaa9b63d1a16f80ef2554d7189c411f5869ca52c5b83fa36ff216b9c1d30062bebcfd2dc5bce0911934fda79a86f6e698ced759c3ff9b6477338f3da4f9cd8514ea9982ccafb341b2384dd902f3d1ab7ac61dd29c6f21ba5b862f3730e37cfdc4fd806c22f221",
		},
		{
			"1c9240a5eb55d38af333888604f6b5f0473917c1402b80099dca5cbc207075c0", strings.Repeat("00", 11) + "02", 42,
			"'Twas brillig, and the slithy toves\nDid gyre and gimble in the wabe:\nAll mimsy were the borogoves,\nAnd the mome raths outgrabe.",
			"62e6347f95ed87a45ffae7426f27a1df5fb69110044c0d73118effa95b01e5cf166d3df2d721caf9b21e5fb14c616871fd84c54f9d65b283196c7fe4f60553ebf39c6402c42234e32a356b3e764312a61a5532055716ead6962568f87d3f3f7704c6a8d1bcd1bf4d50d6154b6da731b187b58dfd728afa36757a797ac188d1",
		},
	} {
		key, nonce := unhex(t, x.key), unhex(t, x.nonce)
		if got := hex.EncodeToString(xor(t, key, nonce, x.counter, []byte(x.msg))); got != x.want {
			t.Errorf("%d: %s, wanted %s", i, got, x.want)
		}
		if got := string(xor(t, key, nonce, x.counter, unhex(t, x.want))); got != x.msg {
			t.Errorf("%d, back: %q, wanted %q", i, got, x.msg)
		}
	}
}

func TestXorByTheChaptersWords(t *testing.T) {
	for _, counter := range manyCounters() {
		for _, n := range lengths() {
			key, nonce, msg := made(32, byte(n)), made(12, byte(n+1)), made(n, byte(n+2))
			if got, want := xor(t, key, nonce, counter, msg), wantXor(key, nonce, counter, msg); !bytes.Equal(got, want) {
				t.Errorf("counter %d, %d bytes: %x, wanted %x", counter, n, got, want)
			}
		}
	}
}

func TestXorOfEachLength(t *testing.T) {
	key, nonce := made(32, 3), made(12, 4)
	for n := range 4*64 + 10 {
		msg := made(n, 5)
		if got, want := xor(t, key, nonce, 7, msg), wantXor(key, nonce, 7, msg); !bytes.Equal(got, want) {
			t.Errorf("%d bytes: %x, wanted %x", n, got, want)
		}
	}
}

// Bytes that are 0 become the Blocks themselves, one behind the other.
func TestXorOfNoughtsIsTheBlocks(t *testing.T) {
	key, nonce := made(32, 6), made(12, 7)
	for _, counter := range []uint32{0, 1, 255, 1 << 31, math.MaxUint32 - 3} {
		var want []byte
		for i := range uint32(4) {
			want = append(want, block(t, key, nonce, counter+i)...)
		}
		if got := xor(t, key, nonce, counter, make([]byte, 256)); !bytes.Equal(got, want) {
			t.Errorf("counter %d: %x, wanted %x", counter, got, want)
		}
	}
}

func TestXorOfNoBytes(t *testing.T) {
	for i, none := range nothings() {
		for _, counter := range append(manyCounters(), lastCounters()...) {
			if b, e := Xor(made(32, 8), made(12, 9), counter, none); e != api.OK || len(b) != 0 {
				t.Errorf("nothing %d, counter %d: %x, error %d", i, counter, b, e)
			}
		}
	}
}

// So many bytes each of the last counters still changes; one more is refused.
func TestXorAtTheLastCounters(t *testing.T) {
	key, nonce := made(32, 10), made(12, 11)
	for many := 1; many <= 70; many++ {
		counter := math.MaxUint32 - uint32(many-1)
		for _, n := range []int{64*many - 64, 64*many - 63, 64*many - 1, 64 * many} {
			msg := made(n, byte(many))
			if got, want := xor(t, key, nonce, counter, msg), wantXor(key, nonce, counter, msg); !bytes.Equal(got, want) {
				t.Errorf("counter %d, %d bytes: %x, wanted %x", counter, n, got, want)
			}
		}
		for _, more := range []int{1, 2, 63, 64, 65, 5000} {
			refused(t, key, nonce, counter, made(64*many+more, 12), api.ErrBig)
		}
	}
}

// With a counter of 2^32 - 2^14 the greatest message is of 2^20 bytes: sums of fewer than 33 bits go astray there, or sooner.
func TestXorOfAGreatMessage(t *testing.T) {
	key, nonce, msg := made(32, 13), made(12, 14), made(1<<20+1, 15)
	whole := msg[:1<<20]
	want := wantXor(key, nonce, 1<<32-1<<14, whole)
	if got := xor(t, key, nonce, 1<<32-1<<14, whole); !bytes.Equal(got, want) {
		t.Error("the greatest message is not changed by its Blocks")
	}
	refused(t, key, nonce, 1<<32-1<<14, msg, api.ErrBig)
	for _, counter := range []uint32{0, 1, 1 << 26, 1<<26 - 1<<14, 1 << 31, 63 << 26} {
		if got, want := xor(t, key, nonce, counter, msg), wantXor(key, nonce, counter, msg); !bytes.Equal(got, want) {
			t.Errorf("counter %d: it is not changed by its Blocks", counter)
		}
	}
}

func TestXorWithAWrongKeyOrNonce(t *testing.T) {
	for _, x := range wrongs() {
		key, nonce := made(x.key, 16), made(x.nonce, 17)
		for _, n := range []int{0, 1, 64, 65} {
			refused(t, key, nonce, 0, made(n, 18), api.ErrArg)
			refused(t, key, nonce, math.MaxUint32, made(n, 18), api.ErrArg) // of 65 bytes: also too great, which is told behind this
		}
		refused(t, key, nonce, math.MaxUint32-1, made(129, 18), api.ErrArg)
	}
}

func TestXorWithNoKeyOrNonce(t *testing.T) {
	for _, none := range nothings() {
		for _, msg := range [][]byte{nil, {}, made(1, 19), made(65, 20)} {
			for _, counter := range []uint32{0, 1, math.MaxUint32} {
				refused(t, none, none, counter, msg, api.ErrArg)
				refused(t, none, make([]byte, 12), counter, msg, api.ErrArg)
				refused(t, make([]byte, 32), none, counter, msg, api.ErrArg)
			}
		}
	}
}

// A refused call leaves nothing behind: the next one answers what it would have.
func TestARefusedCallChangesNothing(t *testing.T) {
	key, nonce, msg := made(32, 21), made(12, 22), made(100, 23)
	want, first := wantXor(key, nonce, 5, msg), wantBlock(key, nonce, 5)
	for _, x := range []struct {
		key, nonce int
		counter    uint32
	}{{31, 12, 0}, {32, 13, 0}, {32, 12, math.MaxUint32}} {
		Block(key[:min(x.key, 32)], made(x.nonce, 24), x.counter)
		Xor(key[:min(x.key, 32)], made(x.nonce, 24), x.counter, msg)
		if !bytes.Equal(xor(t, key, nonce, 5, msg), want) || !bytes.Equal(block(t, key, nonce, 5), first) {
			t.Errorf("behind a key of %d bytes, a nonce of %d, counter %d", x.key, x.nonce, x.counter)
		}
	}
}

// P6.4

// follows asks of a message, at a cut, all that the chapter says follows; other is what stands behind the cut in another message.
func follows(t *testing.T, key, nonce []byte, counter uint32, msg, other []byte, at int) {
	t.Helper()
	changed := xor(t, key, nonce, counter, msg)
	if twice := xor(t, key, nonce, counter, changed); !bytes.Equal(twice, msg) {
		t.Errorf("counter %d, %x: twice %x", counter, msg, twice)
	}
	if begun := xor(t, key, nonce, counter, msg[:at]); !bytes.Equal(begun, changed[:at]) {
		t.Errorf("counter %d, %x: its first %d bytes become %x, in all of it %x", counter, msg, at, begun, changed[:at])
	}
	alike := append(bytes.Clone(msg[:at]), other...)
	if got := xor(t, key, nonce, counter, alike); !bytes.Equal(got[:at], changed[:at]) {
		t.Errorf("counter %d, %x and %x: both begin with the same %d bytes, which become %x and %x", counter, msg, alike, at, changed[:at], got[:at])
	}
}

func TestWhatFollows(t *testing.T) {
	for _, counter := range manyCounters() {
		for _, n := range lengths() {
			for _, at := range []int{0, 1, 63, 64, 65, n - 1, n} {
				if at < 0 || at > n {
					continue
				}
				for _, m := range []int{0, 1, n - at} {
					follows(t, made(32, byte(n)), made(12, byte(at)), counter, made(n, 25), made(m, 26), at)
				}
			}
		}
	}
	follows(t, made(32, 27), made(12, 28), math.MaxUint32, made(64, 29), made(60, 30), 4)
	follows(t, made(32, 27), made(12, 28), math.MaxUint32-1, made(128, 29), made(128, 30), 0)
}

// Other keys, nonces and counters change a message otherwise; a counter of one more begins with the next Block.
func TestWhatChangesAMessageOtherwise(t *testing.T) {
	key, nonce, msg := made(32, 31), made(12, 32), made(192, 33)
	base := xor(t, key, nonce, 9, msg)
	otherKey, otherNonce := bytes.Clone(key), bytes.Clone(nonce)
	otherKey[31] ^= 128
	otherNonce[0] ^= 1
	for i, got := range [][]byte{xor(t, otherKey, nonce, 9, msg), xor(t, key, otherNonce, 9, msg), xor(t, key, nonce, 10, msg)} {
		for at := 0; at < len(msg); at += 64 {
			if bytes.Equal(got[at:at+64], base[at:at+64]) {
				t.Errorf("%d: the bytes from %d on are the same", i, at)
			}
		}
	}
	if next := xor(t, key, nonce, 10, msg[64:]); !bytes.Equal(next, base[64:]) {
		t.Errorf("from the second Block on: %x, wanted %x", next, base[64:])
	}
}

func FuzzWhatFollows(f *testing.F) {
	f.Add(made(32, 1), made(12, 2), uint32(0), []byte("abc"), []byte("xyz"), 1)
	f.Add(made(32, 3), made(12, 4), uint32(1), made(130, 5), []byte{}, 64)
	f.Add(made(31, 6), made(12, 7), uint32(0), made(65, 8), made(3, 9), 0)
	f.Add(made(32, 10), made(13, 11), uint32(math.MaxUint32), made(65, 12), made(3, 13), 0)
	f.Add(made(32, 14), made(12, 15), uint32(math.MaxUint32), made(65, 16), made(3, 17), 0)
	f.Add(made(32, 18), made(12, 19), uint32(math.MaxUint32-1), made(128, 20), made(0, 21), 127)
	f.Fuzz(func(t *testing.T, key, nonce []byte, counter uint32, msg, other []byte, at int) {
		if len(key) != 32 || len(nonce) != 12 {
			if b, e := Block(key, nonce, counter); e != api.ErrArg || len(b) != 0 {
				t.Errorf("%d and %d bytes: Block: %d bytes, error %d", len(key), len(nonce), len(b), e)
			}
			refused(t, key, nonce, counter, msg, api.ErrArg)
			return
		}
		if got := block(t, key, nonce, counter); !bytes.Equal(got, wantBlock(key, nonce, counter)) {
			t.Errorf("%x, %x, %d: Block is %x", key, nonce, counter, got)
		}
		at = max(0, min(at, len(msg)))
		if most := 64 * (1<<32 - int64(counter)); int64(len(msg)) > most {
			refused(t, key, nonce, counter, msg, api.ErrBig)
			return
		} else if int64(at+len(other)) > most {
			other = nil
		}
		if got := xor(t, key, nonce, counter, msg); !bytes.Equal(got, wantXor(key, nonce, counter, msg)) {
			t.Errorf("%x, %x, %d, %x: Xor is %x", key, nonce, counter, msg, got)
		}
		follows(t, key, nonce, counter, msg, other, at)
	})
}

// Rules 4, 5 and 8: what is handed in stays as it was, what is handed out is new memory, what lies behind a length does not count, and nothing is kept.

// calls answers what each call that hands out bytes makes of a key, a nonce, a counter and a message.
func calls(key, nonce []byte, counter uint32, msg []byte) map[string][]byte {
	first, _ := Block(key, nonce, counter)
	changed, _ := Xor(key, nonce, counter, msg)
	return map[string][]byte{"Block": first, "Xor": changed}
}

// fill writes over all of b's memory, its spare room too.
func fill(b []byte) {
	b = b[:cap(b)]
	for i := range b {
		b[i] ^= 0xa5
	}
}

func TestWhatIsHandedInStaysAsItWas(t *testing.T) {
	for _, n := range lengths() {
		for _, x := range []struct {
			key, nonce int
			counter    uint32
		}{{32, 12, 0}, {32, 12, math.MaxUint32}, {31, 12, 0}, {33, 12, 0}, {32, 11, 0}, {32, 13, 0}, {0, 0, 0}} {
			wholes := [][]byte{made(100, 34), made(100, 35), made(n+200, 36)}
			kept := [][]byte{bytes.Clone(wholes[0]), bytes.Clone(wholes[1]), bytes.Clone(wholes[2])}
			for _, got := range calls(wholes[0][:x.key], wholes[1][:x.nonce], x.counter, wholes[2][:n]) {
				fill(got)
			}
			// and where one memory is all three of them
			for _, got := range calls(wholes[2][:x.key], wholes[2][:x.nonce], x.counter, wholes[2][:n]) {
				fill(got)
			}
			for i, whole := range wholes {
				if !bytes.Equal(whole, kept[i]) {
					t.Errorf("%d and %d bytes, a message of %d: argument %d: %x, was %x", x.key, x.nonce, n, i, whole, kept[i])
				}
			}
		}
	}
}

func TestOneMemoryForAllThatIsHandedIn(t *testing.T) {
	for _, n := range lengths() {
		b := made(n+32, 37)
		key, nonce, msg := b[:32], b[5:17], b[:n]
		want := wantXor(bytes.Clone(key), bytes.Clone(nonce), 3, bytes.Clone(msg))
		if got := xor(t, key, nonce, 3, msg); !bytes.Equal(got, want) {
			t.Errorf("%d bytes: %x, wanted %x", n, got, want)
		}
	}
}

func TestWhatIsHandedOutIsNewMemory(t *testing.T) {
	for _, n := range lengths() {
		key, nonce, msg := made(32, 38), made(12, 39), made(n, 40)
		want := map[string][]byte{"Block": wantBlock(key, nonce, 2), "Xor": wantXor(key, nonce, 2, msg)}
		first, second := calls(key, nonce, 2, msg), calls(key, nonce, 2, msg)
		for _, in := range [][]byte{key, nonce, msg} {
			fill(in)
		}
		for name, got := range first {
			if !bytes.Equal(got, want[name]) {
				t.Errorf("%s, %d bytes: it changes with what was handed in", name, n)
			}
			fill(got)
			if !bytes.Equal(second[name], want[name]) {
				t.Errorf("%s, %d bytes: it changes with what was handed out ahead of it", name, n)
			}
		}
	}
}

func TestWhatLiesBehindALengthDoesNotCount(t *testing.T) {
	for _, n := range lengths() {
		ins, others := [3][]byte{made(100, 41), made(100, 42), made(n+100, 43)}, [3][]byte{}
		for i, length := range []int{32, 12, n} {
			others[i] = bytes.Clone(ins[i])
			fill(others[i][length:])
			ins[i], others[i] = ins[i][:length], others[i][:length]
		}
		want := calls(ins[0], ins[1], 4, ins[2])
		for name, got := range calls(others[0], others[1], 4, others[2]) {
			if !bytes.Equal(got, want[name]) {
				t.Errorf("%s, %d bytes: it changes with the spare room of what was handed in", name, n)
			}
			if spare := got[len(got):cap(got)]; len(bytes.Trim(spare, "\x00")) != 0 {
				t.Errorf("%s, %d bytes: its spare room holds %x", name, n, spare)
			}
		}
	}
}
