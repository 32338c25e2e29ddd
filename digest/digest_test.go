package digest

import (
	"bytes"
	"crypto/sha256"
	"encoding"
	"encoding/binary"
	"encoding/hex"
	"math"
	"math/big"
	"strings"
	"testing"
)

// made answers so many bytes without a plain order, the same ones for the same seed.
func made(length int, seed byte) []byte {
	b := make([]byte, length)
	state := uint32(seed)*2654435761 + 1
	for i := range b {
		state = state*1664525 + 1013904223
		b[i] = byte(state>>24) ^ seed
	}
	return b
}

// stateOf answers the state whose words are the first 32 bytes of b.
func stateOf(b []byte) [8]uint32 {
	var state [8]uint32
	for i := range state {
		state[i] = binary.BigEndian.Uint32(b[4*i:])
	}
	return state
}

// bytesOf answers a state's words as bytes.
func bytesOf(state [8]uint32) []byte {
	b := make([]byte, 0, 32)
	for _, word := range state {
		b = binary.BigEndian.AppendUint32(b, word)
	}
	return b
}

// libraryBlock answers what Go's library makes of a state and a block: its sum is set to the state, handed the block, and asked for its state.
func libraryBlock(t *testing.T, state [8]uint32, block [64]byte) [8]uint32 {
	t.Helper()
	const magic = "sha\x03"
	held := append([]byte(magic), bytesOf(state)...)
	held = append(held, make([]byte, 64+8)...)
	sum := sha256.New()
	if err := sum.(encoding.BinaryUnmarshaler).UnmarshalBinary(held); err != nil {
		t.Fatal(err)
	}
	sum.Write(block[:])
	held, err := sum.(encoding.BinaryMarshaler).MarshalBinary()
	if err != nil {
		t.Fatal(err)
	}
	return stateOf(held[len(magic):])
}

// P3.1

func TestStart(t *testing.T) {
	want := [8]uint32{0x6a09e667, 0xbb67ae85, 0x3c6ef372, 0xa54ff53a, 0x510e527f, 0x9b05688c, 0x1f83d9ab, 0x5be0cd19}
	start := Start()
	if start != want {
		t.Errorf("%08x", start)
	}
	start[0], start[7] = 1, 2
	if again := Start(); again != want {
		t.Errorf("once what it answered was changed: %08x", again)
	}
}

// Start's words are the first bits behind the point of the square roots of the first eight primes (FIPS 180-4, 5.3.3), and the constants those of the cube roots of the first 64 (4.2.2).
func TestStartAndConstantsAreBitsOfRoots(t *testing.T) {
	start := Start()
	for i, prime := range primes(64) {
		if i < 8 {
			if want := rootBits(prime, 2); start[i] != want {
				t.Errorf("word %d of Start: %08x, wanted %08x", i, start[i], want)
			}
		}
		if want := rootBits(prime, 3); constants[i] != want {
			t.Errorf("k%d: %08x, wanted %08x", i, constants[i], want)
		}
	}
}

// primes answers the first so many primes.
func primes(many int) []int64 {
	var found []int64
	for n := int64(2); len(found) < many; n++ {
		if big.NewInt(n).ProbablyPrime(0) {
			found = append(found, n)
		}
	}
	return found
}

// rootBits answers the first 32 bits behind the point of n's root of that degree: the greatest number whose power is at most n times 2^(32 times the degree), without what stands ahead of the point.
func rootBits(n int64, degree int64) uint32 {
	most := new(big.Int).Lsh(big.NewInt(n), uint(32*degree))
	root := new(big.Int)
	for bit := 40; bit >= 0; bit-- {
		root.SetBit(root, bit, 1)
		if new(big.Int).Exp(root, big.NewInt(degree), nil).Cmp(most) > 0 {
			root.SetBit(root, bit, 0)
		}
	}
	return uint32(root.Uint64())
}

// P3.2

func TestBlockOfTheExample(t *testing.T) {
	// abc, a bit 1, and its 24 bits: one block, whose state is the example's sum
	block := [64]byte{'a', 'b', 'c', 128, 63: 24}
	want := [8]uint32{0xba7816bf, 0x8f01cfea, 0x414140de, 0x5dae2223, 0xb00361a3, 0x96177a9c, 0xb410ff61, 0xf20015ad}
	if got := Block(Start(), block); got != want {
		t.Errorf("%08x", got)
	}
}

// The states behind the first and the second block of FIPS 180-4's example of two blocks.
func TestBlockOfTwoBlocks(t *testing.T) {
	var first, second [64]byte
	copy(first[:], "abcdbcdecdefdefgefghfghighijhijkijkljklmklmnlmnomnopnopq\x80")
	binary.BigEndian.PutUint64(second[56:], 448)
	state := Block(Start(), first)
	if state != [8]uint32{0x85e655d6, 0x417a1795, 0x3363376a, 0x624cde5c, 0x76e09589, 0xcac5f811, 0xcc4b32c1, 0xf20e533a} {
		t.Errorf("the first: %08x", state)
	}
	state = Block(state, second)
	if state != [8]uint32{0x248d6a61, 0xd20638b8, 0xe5c02693, 0x0c3e6039, 0xa33ce459, 0x64ff2167, 0xf6ecedd4, 0x19db06c1} {
		t.Errorf("the second: %08x", state)
	}
}

// states answers states at their edges, and some without a plain order.
func states() [][8]uint32 {
	all := [][8]uint32{{}, Start(), stateOf(bytes.Repeat([]byte{255}, 32)), stateOf(bytes.Repeat([]byte{128, 0, 0, 0}, 8)), stateOf(bytes.Repeat([]byte{0, 0, 0, 1}, 8))}
	for i := range 8 {
		var one [8]uint32
		one[i] = 1 << (4 * i)
		all = append(all, one, stateOf(made(32, byte(i))))
	}
	return all
}

// blocks answers blocks at their edges, and some without a plain order.
func blocks() [][64]byte {
	all := [][64]byte{{}, [64]byte(bytes.Repeat([]byte{255}, 64)), [64]byte(bytes.Repeat([]byte{128, 0, 0, 0}, 16)), [64]byte(bytes.Repeat([]byte{0, 0, 0, 1}, 16))}
	for i := range 64 {
		var one [64]byte
		one[i] = 1 << (i % 8)
		all = append(all, one, [64]byte(made(64, byte(i))))
	}
	return all
}

func TestBlockOfAnyStateAndBlock(t *testing.T) {
	for _, state := range states() {
		for _, block := range blocks() {
			if got, want := Block(state, block), libraryBlock(t, state, block); got != want {
				t.Fatalf("%08x, %x: %08x, wanted %08x", state, block, got, want)
			}
		}
	}
}

func TestBlockOfEachBit(t *testing.T) {
	var block [64]byte
	seen := map[[8]uint32]int{Block(Start(), block): -1}
	for bit := range 512 {
		one := block
		one[bit/8] = 128 >> (bit % 8)
		got := Block(Start(), one)
		if want := libraryBlock(t, Start(), one); got != want {
			t.Errorf("bit %d: %08x, wanted %08x", bit, got, want)
		}
		if at, twice := seen[got]; twice {
			t.Errorf("bits %d and %d have one state", at, bit)
		}
		seen[got] = bit
	}
}

// P3.3

// wantPad answers Pad's bytes by the chapter's words, with numbers that have no range to leave.
func wantPad(n int) []byte {
	if n < 0 {
		return nil
	}
	pad := []byte{128}
	for {
		all := new(big.Int).Add(big.NewInt(int64(n)), big.NewInt(int64(len(pad)+8)))
		if all.Mod(all, big.NewInt(64)).Sign() == 0 {
			break
		}
		pad = append(pad, 0)
	}
	count := new(big.Int).Mul(big.NewInt(int64(n)), big.NewInt(8))
	count.Mod(count, new(big.Int).Lsh(big.NewInt(1), 64))
	return append(pad, count.FillBytes(make([]byte, 8))...)
}

func TestPadOfANumberBelow0(t *testing.T) {
	for _, n := range []int{-1, -2, -8, -9, -55, -56, -63, -64, -65, -1000, math.MinInt + 1, math.MinInt} {
		if pad := Pad(n); len(pad) != 0 {
			t.Errorf("%d: %x", n, pad)
		}
	}
}

func TestPadOfNothing(t *testing.T) {
	want := append([]byte{128}, make([]byte, 63)...)
	if pad := Pad(0); !bytes.Equal(pad, want) {
		t.Errorf("%x", pad)
	}
}

func TestPadAroundAMultipleOf64(t *testing.T) {
	for _, x := range []struct {
		n     int
		bytes int
		tail  string
	}{
		{1, 63, "0000000000000008"},
		{54, 10, "00000000000001b0"},
		{55, 9, "00000000000001b8"}, // no byte 0 at all
		{56, 72, "00000000000001c0"},
		{57, 71, "00000000000001c8"},
		{63, 65, "00000000000001f8"},
		{64, 64, "0000000000000200"},
		{65, 63, "0000000000000208"},
		{118, 10, "00000000000003b0"},
		{119, 9, "00000000000003b8"},
		{120, 72, "00000000000003c0"},
		{127, 65, "00000000000003f8"},
		{128, 64, "0000000000000400"},
		{129, 63, "0000000000000408"},
	} {
		tail, err := hex.DecodeString(x.tail)
		if err != nil {
			t.Fatal(err)
		}
		want := append([]byte{128}, make([]byte, x.bytes-9)...)
		want = append(want, tail...)
		if pad := Pad(x.n); !bytes.Equal(pad, want) {
			t.Errorf("%d: %x, wanted %x", x.n, pad, want)
		}
	}
}

func TestPadOfAnyNumber(t *testing.T) {
	numbers := []int{}
	for n := range 1000 {
		numbers = append(numbers, n, math.MaxInt-n)
	}
	// around the powers of two: those from 2^61 on, eight times, go beyond 2^64
	for bit := range 63 {
		for more := -70; more <= 70; more++ {
			numbers = append(numbers, 1<<bit+more)
		}
	}
	for _, n := range numbers {
		pad, want := Pad(n), wantPad(n)
		if !bytes.Equal(pad, want) {
			t.Errorf("%d: %x, wanted %x", n, pad, want)
		}
		if n >= 0 && (len(pad) < 9 || len(pad) > 72 || (n%64+len(pad))%64 != 0) {
			t.Errorf("%d: %d bytes", n, len(pad))
		}
	}
}

func TestPadOfANumberThatEightTimesGoesBeyond(t *testing.T) {
	for _, x := range []struct {
		n    int
		tail string
	}{
		{1<<61 - 1, "fffffffffffffff8"},
		{1 << 61, "0000000000000000"},
		{1<<61 + 1, "0000000000000008"},
		{1 << 62, "0000000000000000"},
		{1<<62 + 1<<61 + 55, "00000000000001b8"},
		{math.MaxInt - 63, "fffffffffffffe00"},
		{math.MaxInt - 8, "ffffffffffffffb8"},
		{math.MaxInt, "fffffffffffffff8"},
	} {
		pad := Pad(x.n)
		if len(pad) < 9 || hex.EncodeToString(pad[len(pad)-8:]) != x.tail {
			t.Errorf("%d: %x, wanted %s at its end", x.n, pad, x.tail)
		}
	}
}

// P3.4

func TestSumOfKnownTexts(t *testing.T) {
	for text, want := range map[string]string{
		"abc": "ba7816bf8f01cfea414140de5dae2223b00361a396177a9cb410ff61f20015ad",
		"":    "e3b0c44298fc1c149afbf4c8996fb92427ae41e4649b934ca495991b7852b855",
		"a":   "ca978112ca1bbdcafac231b39a23dc4da786eff8147c4e72b9807785afee48bb",
		"abcdbcdecdefdefgefghfghighijhijkijkljklmklmnlmnomnopnopq":                                                         "248d6a61d20638b8e5c026930c3e6039a33ce45964ff2167f6ecedd419db06c1",
		"abcdefghbcdefghicdefghijdefghijkefghijklfghijklmghijklmnhijklmnoijklmnopjklmnopqklmnopqrlmnopqrsmnopqrstnopqrstu": "cf5b16a778af8380036ce59e7b0492370b249b11e8f07a51afac45037afee9d1",
		strings.Repeat("a", 1000000): "cdc76e5c9914fb9281a1c7e284d73e67f1809a48a497200e046d39ccc7112cd0",
	} {
		if got := hex.EncodeToString(Sum([]byte(text))); got != want {
			t.Errorf("%d bytes: %s, wanted %s", len(text), got, want)
		}
	}
}

func TestSumOfNothing(t *testing.T) {
	const want = "e3b0c44298fc1c149afbf4c8996fb92427ae41e4649b934ca495991b7852b855"
	for i, none := range [][]byte{nil, {}, make([]byte, 0, 100), []byte("abc")[:0]} {
		if got := hex.EncodeToString(Sum(none)); got != want {
			t.Errorf("nothing %d: %s", i, got)
		}
	}
}

func TestSumOfAnyLength(t *testing.T) {
	lengths := []int{1000, 4095, 4096, 4097, 65535, 65536, 65537}
	for n := range 4*64 + 10 {
		lengths = append(lengths, n)
	}
	for _, n := range lengths {
		for _, b := range [][]byte{made(n, 3), make([]byte, n), bytes.Repeat([]byte{255}, n), bytes.Repeat([]byte{128}, n)} {
			if got, want := Sum(b), sha256.Sum256(b); !bytes.Equal(got, want[:]) {
				t.Errorf("%d bytes: %x, wanted %x", n, got, want)
			}
		}
	}
}

// The sum of what Pad has put behind b is another one than b's: a length is told within.
func TestSumOfWhatIsPadded(t *testing.T) {
	for _, n := range []int{0, 3, 55, 56, 63, 64} {
		b := made(n, 4)
		padded := append(bytes.Clone(b), Pad(n)...)
		if bytes.Equal(Sum(b), Sum(padded)) {
			t.Errorf("%d bytes", n)
		}
		if bytes.Equal(Sum(b), Sum(append(bytes.Clone(b), 0))) {
			t.Errorf("%d bytes, and a byte 0", n)
		}
	}
}

func TestTwoAtEachCut(t *testing.T) {
	for _, n := range []int{0, 1, 2, 55, 56, 63, 64, 65, 119, 120, 127, 128, 129, 200} {
		b := made(n, 5)
		want := sha256.Sum256(b)
		for at := range n + 1 {
			if got := Two(b[:at], b[at:]); !bytes.Equal(got, want[:]) {
				t.Errorf("%d bytes, cut at %d: %x, wanted %x", n, at, got, want)
			}
		}
	}
}

func TestTwoWithASideThatIsEmpty(t *testing.T) {
	for _, none := range [][]byte{nil, {}, []byte("xyz")[:0]} {
		for _, n := range []int{0, 1, 63, 64, 65, 128} {
			b := made(n, 6)
			want := sha256.Sum256(b)
			if got := Two(none, b); !bytes.Equal(got, want[:]) {
				t.Errorf("nothing, %d bytes: %x", n, got)
			}
			if got := Two(b, none); !bytes.Equal(got, want[:]) {
				t.Errorf("%d bytes, nothing: %x", n, got)
			}
		}
	}
}

func TestTwoKeepsTheOrder(t *testing.T) {
	if got := Two([]byte("a"), []byte("bc")); !bytes.Equal(got, Sum([]byte("abc"))) {
		t.Errorf("a, bc: %x", got)
	}
	if got := Two([]byte("bc"), []byte("a")); !bytes.Equal(got, Sum([]byte("bca"))) || bytes.Equal(got, Sum([]byte("abc"))) {
		t.Errorf("bc, a: %x", got)
	}
}

func TestIdIsTheFirstEightBytes(t *testing.T) {
	for text, want := range map[string]uint64{
		"abc": 0xba7816bf8f01cfea,
		"":    0xe3b0c44298fc1c14,
		"a":   0xca978112ca1bbdca,
	} {
		if got := Id([]byte(text)); got != want {
			t.Errorf("%q: %x, wanted %x", text, got, want)
		}
	}
	if Id(nil) != 0xe3b0c44298fc1c14 {
		t.Errorf("nil: %x", Id(nil))
	}
	for n := range 200 {
		b := made(n, 7)
		sum := sha256.Sum256(b)
		if got, want := Id(b), binary.BigEndian.Uint64(sum[:]); got != want {
			t.Errorf("%d bytes: %x, wanted %x", n, got, want)
		}
	}
}

// P3.5

// gone answers the state that whole blocks of b lead to.
func gone(state [8]uint32, b []byte) [8]uint32 {
	for len(b) > 0 {
		state = Block(state, [64]byte(b[:64]))
		b = b[64:]
	}
	return state
}

// follows asks of b all that the chapter says follows.
func follows(t *testing.T, b []byte) {
	t.Helper()
	sum := Sum(b)
	if len(sum) != 32 {
		t.Fatalf("%d bytes: a sum of %d", len(b), len(sum))
	}
	all := append(bytes.Clone(b), Pad(len(b))...)
	if len(all)%64 != 0 {
		t.Fatalf("%d bytes: %d with Pad", len(b), len(all))
	}
	for at := 0; at <= len(all); at += 64 {
		first := gone(Start(), all[:at])
		if got := bytesOf(gone(first, all[at:])); !bytes.Equal(got, sum) {
			t.Errorf("%d bytes, cut at %d: %x, wanted %x", len(b), at, got, sum)
		}
	}
	if id := Id(b); id != binary.BigEndian.Uint64(sum) {
		t.Errorf("%d bytes: Id %x of %x", len(b), id, sum)
	}
}

func TestWhatFollows(t *testing.T) {
	follows(t, nil)
	for n := range 3*64 + 10 {
		follows(t, made(n, 8))
	}
	follows(t, made(1000, 9))
}

func FuzzWhatFollows(f *testing.F) {
	f.Add([]byte("abc"), 1)
	f.Add([]byte{}, 0)
	f.Add(made(130, 1), 64)
	f.Fuzz(func(t *testing.T, b []byte, at int) {
		follows(t, b)
		want := sha256.Sum256(b)
		if got := Sum(b); !bytes.Equal(got, want[:]) {
			t.Errorf("%x: %x, wanted %x", b, got, want)
		}
		at = max(0, min(at, len(b)))
		if got := Two(b[:at], b[at:]); !bytes.Equal(got, want[:]) {
			t.Errorf("%x, cut at %d: %x, wanted %x", b, at, got, want)
		}
		if pad := Pad(at); !bytes.Equal(pad, wantPad(at)) {
			t.Errorf("Pad of %d: %x", at, pad)
		}
	})
}

// Rules 4, 5 and 8: what is handed in stays as it was, what is handed out is new memory, what lies behind a length does not count, and nothing is kept.

// calls answers what each call that hands out bytes makes of a and b.
func calls(a, b []byte) map[string][]byte {
	return map[string][]byte{"Sum": Sum(a), "Two": Two(a, b), "Pad": Pad(len(a))}
}

// fill writes over all of b's memory, its spare room too.
func fill(b []byte) {
	b = b[:cap(b)]
	for i := range b {
		b[i] ^= 0xa5
	}
}

func TestStateAndBlockStayAsTheyWere(t *testing.T) {
	state, block := Start(), [64]byte(made(64, 10))
	keptState, keptBlock := state, block
	once := Block(state, block)
	if state != keptState || block != keptBlock {
		t.Errorf("%08x, %x", state, block)
	}
	want := once
	for i := range once {
		once[i] = 0
	}
	if again := Block(state, block); again != want {
		t.Errorf("again: %08x, wanted %08x", again, want)
	}
}

func TestWhatIsHandedInStaysAsItWas(t *testing.T) {
	for _, n := range []int{0, 1, 55, 56, 63, 64, 65, 127, 128, 129} {
		whole, other := made(300, 11), made(300, 12)
		keptWhole, keptOther := bytes.Clone(whole), bytes.Clone(other)
		a, b := whole[:n], other[:200-n]
		Id(a)
		for _, got := range calls(a, b) {
			fill(got)
		}
		for _, got := range calls(a, a) {
			fill(got)
		}
		if !bytes.Equal(whole, keptWhole) || !bytes.Equal(other, keptOther) {
			t.Errorf("%d bytes: %x, %x", n, whole, other)
		}
	}
}

func TestWhatIsHandedOutIsNewMemory(t *testing.T) {
	for _, n := range []int{0, 3, 64, 100} {
		a, b := made(n, 13), made(70, 14)
		once, again := calls(a, b), calls(a, b)
		want := map[string][]byte{}
		for name, got := range again {
			want[name] = bytes.Clone(got)
		}
		for _, got := range once {
			fill(got)
		}
		for name, got := range again {
			if !bytes.Equal(got, want[name]) {
				t.Errorf("%s of %d bytes shares memory with what was handed out ahead of it", name, n)
			}
		}
		for name, got := range once {
			fill(got)
			if !bytes.Equal(got, want[name]) {
				t.Errorf("%s of %d bytes shares memory with another", name, n)
			}
		}
		fill(a)
		fill(b)
		for name, got := range again {
			if !bytes.Equal(got, want[name]) {
				t.Errorf("%s of %d bytes kept what was handed in", name, n)
			}
		}
	}
}

func TestWhatLiesBehindALengthDoesNotCount(t *testing.T) {
	for _, n := range []int{0, 3, 55, 63, 64, 65} {
		whole, other := made(200, 15), made(200, 15)
		for i := n; i < len(other); i++ {
			other[i] ^= 0xff
		}
		a, b := whole[:n], other[:n]
		if !bytes.Equal(Sum(a), Sum(b)) || Id(a) != Id(b) || !bytes.Equal(Two(a, b), Two(b, a)) {
			t.Errorf("%d bytes", n)
		}
		for name, got := range calls(a, b) {
			if spare := got[len(got):cap(got)]; len(bytes.Trim(spare, "\x00")) != 0 {
				t.Errorf("%s of %d bytes: its spare room holds %x", name, n, spare)
			}
		}
	}
}
