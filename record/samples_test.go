package record

import (
	"crypto/hmac"
	"crypto/sha256"
	"encoding/binary"
	"encoding/hex"
	"math"
	"slices"
	"strconv"
	"strings"
	"testing"

	"carcanet/api"
	"carcanet/box"
)

// made answers so many bytes without a plain order, the same ones for the same seed.
func made(length int, seed byte) []byte {
	b := make([]byte, length)
	state := uint32(seed)*2654435761 + 1
	for i := range b {
		state = state*1664525 + 1013904223
		b[i] = byte(state>>24) ^ seed
	}
	return b
}

// unhex answers the bytes that a text of hex digits is.
func unhex(t testing.TB, text string) []byte {
	t.Helper()
	b, err := hex.DecodeString(text)
	if err != nil {
		t.Fatal(err)
	}
	return b
}

// nothings answers the ways in which no bytes may come in.
func nothings() [][]byte {
	return [][]byte{nil, {}, make([]byte, 0, 100), []byte("\x03\x03\x03")[:0]}
}

// turned answers a copy of the bytes that has this one at this place.
func turned(b []byte, at int, by byte) []byte {
	list := joined(b)
	list[at] = by
	return list
}

// joined answers these bytes in memory of their own.
func joined(parts ...[]byte) []byte {
	list := []byte{}
	for _, b := range parts {
		list = append(list, b...)
	}
	return list
}

// threes answers so many bytes of which the first one is a record's, and all others are 0.
func threes(many int) []byte { return turned(make([]byte, many), 0, 3) }

// Heads

func plainHead() Head { return Head{0x0102030405060708, 2, 0x0304, 0x0506} }

func leastHead() Head { return Head{1, 1, 0, 1} }

func greatHead() Head { return Head{math.MaxUint64, 2, 65535, 4096} }

// bases answers heads that may be.
func bases() []Head { return []Head{plainHead(), leastHead(), greatHead()} }

// but answers that head, changed.
func but(h Head, change func(h *Head)) Head {
	change(&h)
	return h
}

// An edge is a number that a field may be handed, and whether it may be there.
type edge struct {
	n     int
	right bool
}

func roles() []edge {
	return []edge{{0, false}, {1, true}, {2, true}, {3, false}, {-1, false}, {-2, false}, {4, false}, {255, false}, {256, false}, {257, false}, {258, false}, {1<<32 + 1, false}, {1<<32 + 2, false}, {-255, false}, {-254, false}, {math.MinInt + 1, false}, {math.MinInt, false}, {math.MaxInt, false}}
}

func epochs() []edge {
	return []edge{{-1, false}, {0, true}, {1, true}, {2, true}, {31, true}, {255, true}, {256, true}, {4096, true}, {32767, true}, {32768, true}, {65534, true}, {65535, true}, {65536, false}, {65537, false}, {-65535, false}, {-65536, false}, {1 << 32, false}, {1<<32 + 1, false}, {math.MinInt, false}, {math.MinInt + 1, false}, {math.MaxInt, false}}
}

func seqs() []edge {
	return []edge{{-1, false}, {0, false}, {1, true}, {2, true}, {255, true}, {256, true}, {257, true}, {4095, true}, {4096, true}, {4097, false}, {8192, false}, {65535, false}, {65536, false}, {65537, false}, {1 << 31, false}, {1<<32 - 1, false}, {1 << 32, false}, {1<<32 + 1, false}, {1<<32 + 4096, false}, {-4096, false}, {-1<<32 + 1, false}, {math.MinInt, false}, {math.MinInt + 1, false}, {math.MaxInt, false}}
}

// ids answers identifiers; but for 0 each may be.
func ids() []uint64 {
	return []uint64{0, 1, 2, 255, 256, 1 << 31, 1 << 32, 0x0102030405060708, math.MaxInt64, 1 << 63, math.MaxUint64 - 1, math.MaxUint64}
}

// A sample is a head, and whether it may be.
type sample struct {
	Head
	right bool
}

// heads answers heads of all edges, with one another.
func heads() []sample {
	var list []sample
	for _, id := range ids() {
		for _, role := range roles() {
			for _, epoch := range epochs() {
				for _, seq := range seqs() {
					list = append(list, sample{Head{id, role.n, epoch.n, seq.n}, id != 0 && role.right && epoch.right && seq.right})
				}
			}
		}
	}
	return list
}

// wrongHeads answers heads that may not be, some for one thing alone.
func wrongHeads() []Head {
	list := []Head{{}, {0, 3, -1, 0}, {0, -1, 65536, 4097}, {0, math.MinInt, math.MinInt, math.MinInt}, {0, math.MaxInt, math.MaxInt, math.MaxInt}}
	for _, base := range bases() {
		list = append(list, but(base, func(h *Head) { h.Id = 0 }))
		for _, x := range roles() {
			if !x.right {
				list = append(list, but(base, func(h *Head) { h.Role = x.n }))
			}
		}
		for _, x := range epochs() {
			if !x.right {
				list = append(list, but(base, func(h *Head) { h.Epoch = x.n }))
			}
		}
		for _, x := range seqs() {
			if !x.right {
				list = append(list, but(base, func(h *Head) { h.Seq = x.n }))
			}
		}
	}
	return list
}

// otherHeads answers heads that may be, and differ from this one: in one field, or in all.
func otherHeads(h Head) []Head {
	list := []Head{}
	add := func(x Head) {
		if x != h && !slices.Contains(list, x) && x.Id != 0 && x.Epoch <= 65535 && x.Seq >= 1 && x.Seq <= 4096 {
			list = append(list, x)
		}
	}
	add(but(h, func(x *Head) { x.Role = 3 - h.Role }))
	for bit := range 64 {
		add(but(h, func(x *Head) { x.Id ^= 1 << bit }))
	}
	for bit := range 16 {
		add(but(h, func(x *Head) { x.Epoch ^= 1 << bit }))
	}
	for bit := range 13 {
		add(but(h, func(x *Head) { x.Seq ^= 1 << bit }))
	}
	for _, x := range bases() {
		add(x)
	}
	add(Head{uint64(h.Seq), h.Role, h.Epoch, int(h.Id % 4096)})
	add(Head{h.Id, h.Role, h.Seq, 1 + h.Epoch%4096})
	return list
}

// Roots

// roots answers roots, at the edges of chapter 4's blocks, no two of which are of one block.
func roots() []string {
	list := []string{"", "root", "toor", "roo", "root ", "\x00a", strings.Repeat("\xff", 32)}
	for _, many := range []int{1, 31, 32, 33, 63, 64, 65, 100, 1000} {
		list = append(list, string(made(many, 3)))
	}
	return list
}

// Texts

// sizes answers lengths of texts: at the edges of what may be, of chapter 8's padding and of chapter 6's blocks.
func sizes() []int {
	return []int{0, 1, 2, 15, 16, 17, 31, 32, 33, 63, 64, 65, 127, 128, 129, 1999, 2000, 2015, 2016}
}

// texts answers texts of each of these lengths, and the ways in which no bytes may come in.
func texts() [][]byte {
	list := nothings()
	for _, many := range sizes() {
		list = append(list, made(many, byte(many)), make([]byte, many))
	}
	return list
}

// What the chapter's words ask for

// wantPut answers the bytes of a head.
func wantPut(h Head) []byte {
	b := binary.BigEndian.AppendUint64([]byte{3}, h.Id)
	b = append(b, byte(h.Role))
	b = binary.BigEndian.AppendUint16(b, uint16(h.Epoch))
	return binary.BigEndian.AppendUint32(b, uint32(h.Seq))
}

// wantTake answers what Take has to. It looks at the bytes of a head, not at their numbers.
func wantTake(b []byte) (Head, api.Errno) {
	if len(b) == 0 || b[0] != 3 {
		return Head{}, api.ErrKind
	}
	if len(b) > 2048 {
		return Head{}, api.ErrBig
	}
	if len(b) < 32 {
		return Head{}, api.ErrShort
	}
	noId := string(b[1:9]) == strings.Repeat("\x00", 8)
	seq := string(b[12:16])
	noSeq := seq == "\x00\x00\x00\x00" || seq > "\x00\x00\x10\x00"
	if noId || noSeq || b[9] != 1 && b[9] != 2 {
		return Head{}, api.ErrForm
	}
	h := Head{Role: int(b[9]), Epoch: int(b[10])*256 + int(b[11]), Seq: int(b[14])*256 + int(b[15])}
	for _, x := range b[1:9] {
		h.Id = h.Id*256 + uint64(x)
	}
	return h, api.OK
}

// wantKey answers an epoch's key.
func wantKey(root string, epoch int) []byte {
	sum := hmac.New(sha256.New, []byte(root))
	sum.Write([]byte("carcanet epoch " + strconv.Itoa(epoch) + "\x01"))
	return sum.Sum(nil)
}

// wantNonce answers the nonce of a number.
func wantNonce(seq int) []byte {
	return binary.BigEndian.AppendUint64(make([]byte, 4), uint64(seq))
}

// sealedBy answers what layer 8 seals, which is asked of its own tests.
func sealedBy(key, nonce, with, text []byte) []byte {
	sealed, e := box.Seal(key, nonce, with, text)
	if e != api.OK {
		panic("the test is at odds with itself")
	}
	return sealed
}

// wantSeal answers the record of a text, of a head that may be.
func wantSeal(root string, h Head, text []byte) []byte {
	head := wantPut(h)
	return joined(head, sealedBy(wantKey(root, h.Epoch), wantNonce(h.Seq), head, text))
}

// A known is a record that another program made.
type known struct {
	root   string
	head   Head
	text   []byte
	record string
}

func knowns() []known {
	some := string(made(32, 1))
	return []known{
		{"root", Head{0x0102030405060708, 1, 258, 4096}, []byte("hello"), "030102030405060708010102000010005a1cc560d0645fc516885c2569e636a3cfa64f59b0"},
		{"", leastHead(), nil, "030000000000000001010000000000018a5477571e1bc806ba7615ba992b5f10"},
		{"root", Head{1, 2, 3, 4}, []byte("a"), "03000000000000000102000300000004e4038c0d04c6e9808f9b4b914434ec1c5a"},
		{some, greatHead(), made(40, 2), "03ffffffffffffffff02ffff00001000a79348719c701bdc172ff753ca038f7eeb6c1b8321237799008629ebee62db873ff135112554041df9474567a6c5407135e471bca2660c6b"},
		{some, Head{math.MaxUint64, 1, 65535, 4096}, made(40, 2), "03ffffffffffffffff01ffff00001000a79348719c701bdc172ff753ca038f7eeb6c1b8321237799008629ebee62db873ff135112554041d009fb460fae1782b2133178fdbe94ad2"},
		{some, Head{1 << 63, 1, 256, 256}, make([]byte, 16), "03800000000000000001010000000100f0183429603aea69220b0d0670d5ea164218d6a1c047550de7c48a3b41eab8f9"},
		{string(made(64, 3)), Head{1 << 32, 2, 1, 17}, made(17, 3), "03000000010000000002000100000011f6ec63a2859d3567b24cf24469841b849426c05cad12c2eb380bfa6246732c1f0d"},
		{string(made(65, 4)), Head{258, 1, 9, 99}, []byte(strings.Repeat("\xff", 33)), "03000000000000010201000900000063553a1ba181674e524e9f2b506fbec1baaf422547bdb45f3ffe957c2cac9941a60e9e66a10adcbf5e9bae12dae6c6d44979"},
		{string(made(100, 5)), Head{7, 2, 10, 100}, []byte("keys and values"), "03000000000000000702000a00000064302e4042f2e04ec221db330254800390151e002db8bb75000fc52431396d1d"},
		{"\x00", Head{5, 1, 65534, 4095}, made(64, 6), "03000000000000000501fffe00000fff4edc7289f1490a01d5bdff829a326e703467284d25177cc50883ce1f7c6847c5831ef9d99b84a8a24e19cf5668c2227dedfea15c6cfa82bdb89886d590935707ab953f19b25a03aaaa7494bad1a1f48b"},
	}
}
