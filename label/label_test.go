package label

import (
	"bytes"
	"crypto/sha256"
	"encoding/binary"
	"encoding/hex"
	"fmt"
	"math"
	"math/big"
	"regexp"
	"slices"
	"strings"
	"testing"
)

// made answers so many bytes without a plain order, the same ones for the same seed.
func made(length int, seed byte) []byte {
	b := make([]byte, length)
	state := uint32(seed)*2654435761 + 1
	for i := range b {
		state = state*1664525 + 1013904223
		b[i] = byte(state>>24) ^ seed
	}
	return b
}

// nothings answers the ways in which no bytes may come in.
func nothings() [][]byte {
	return [][]byte{nil, {}, make([]byte, 0, 100), []byte("abc")[:0]}
}

// texts answers texts of all kinds, most of which are no name, no key, and no digits.
func texts() []string {
	list := []string{
		"", " ", "-", "--", "---", "+", "0", "00", "-0", "+0", "1", "01", "0001", "+1", "-1", "-01", "--1", "+-1", "-+1", "1 ", " 1", "1\n", "\n1", "1\x00", "\x001", "1-", "1+1",
		"1.0", "1e3", "1_0", "0x1", "0b1", "0o7", "1,000", "１", "½", "²", "٣", "−1", "NaN", "Inf", "nil",
		"a", "b", "z", "ab", "aA", "Ab", "a-", "-a", "a1", "1a", "a b", "a\n", "\na", "a\x00", "\x00a", "a_b", "a.b", "a/b", "a:b", "a`", "a{", "a\x7f", "a\x80", "é", "aé", "a\xc3", "\xff", "ａ", "aа",
		"!", "~", "!~", "\x7f", "\x1f", " !", "! ", "k\tk", "k\xa0", "key", "KEY", "key key",
		"0g", "0G", "g0", "0A", "A0", "aB", "FF", "ff", "0/", "0:", "0`", "0x", "ff ", " ff", "f f", "0é", "é0", "fff", "ffff", "FFFF", "fffff",
		"0123456789abcdef", "0123456789ABCDEF", "0123456789abcdeg", "g123456789abcdef", "0123456789abcde", "0123456789abcdef0", "-123456789abcdef", "+123456789abcdef", " 123456789abcdef", "0123456789abcde ", "0x23456789abcdef", "01234567_9abcdef",
		"1073741823", "1073741824", "1073741825", "-1073741823", "-1073741824", "-1073741825", "2147483648", "-2147483649", "4294967296", "4294967297",
		"9223372036854775807", "9223372036854775808", "-9223372036854775808", "-9223372036854775809", "18446744073709551615", "18446744073709551616", "18446744073709551617", "99999999999999999999",
	}
	for _, many := range []int{15, 16, 17, 18, 23, 24, 25, 26, 31, 32, 33, 34, 64, 255, 256, 257, 1000, 8190, 8191, 8192, 8193, 8194, 8195} {
		for _, s := range []string{"a", "0", "1", "f", "-", "z", "Z", "~", " ", "\x00", "\xff"} {
			list = append(list, strings.Repeat(s, many))
		}
		list = append(list, string(made(many, byte(many))), "-"+strings.Repeat("1", many), strings.Repeat("0", many)+"1", strings.Repeat("é", many/2))
	}
	return list
}

// marked answers the texts that have this byte instead of one of theirs, at each place.
func marked(s string, b byte) []string {
	var list []string
	for i := range len(s) {
		list = append(list, s[:i]+string([]byte{b})+s[i+1:])
	}
	return list
}

var (
	names   = regexp.MustCompile(`\A[a-z][a-z0-9-]{0,15}\z`)
	keys    = regexp.MustCompile(`\A[\x21-\x7e]{1,24}\z`)
	sixteen = regexp.MustCompile(`\A[0-9a-f]{16}\z`)
	pairs   = regexp.MustCompile(`\A([0-9a-f]{2})+\z`)
	decimal = regexp.MustCompile(`\A(0|-?[1-9][0-9]*)\z`)
)

// P10.1

// rightLabels asks that Name, Key and Val answer what these texts are, by the forms that they have.
func rightLabels(t *testing.T, s string) {
	t.Helper()
	if got, want := Name(s), names.MatchString(s); got != want {
		t.Errorf("Name of %q: %t", s, got)
	}
	if got, want := Key(s), keys.MatchString(s); got != want {
		t.Errorf("Key of %q: %t", s, got)
	}
	if got, want := Val(s), len(s) <= 32; got != want {
		t.Errorf("Val of %q: %t", s, got)
	}
}

func TestNameOfKnownTexts(t *testing.T) {
	for s, want := range map[string]bool{
		"": false, "a": true, "z": true, "m": true, "node": true, "n0": true, "n9": true, "a-": true, "a--": true, "a-b-c": true, "z9-": true, "a0123456789-z": true,
		"abcdefghijklmno": true, "abcdefghijklmnop": true, "abcdefghijklmnopq": false, "a---------------": true, "a----------------": false, "a999999999999999": true,
		"0": false, "9": false, "-": false, "0a": false, "9a": false, "-a": false, "--": false, "1-a": false,
		"A": false, "Z": false, "Ab": false, "aB": false, "abC": false, "abcdefghijklmnoP": false,
		"é": false, "aé": false, "a\xff": false, "\xe1": false, "a\x80": false, "a\xe1": false, "ａ": false, "aа": false,
		"\x00": false, "a\x00": false, "\x00a": false, "a\x00b": false, "abcdefghijklmno\x00": false, "a" + strings.Repeat("\x00", 15): false,
		"a b": false, " a": false, "a ": false, "a\n": false, "a_b": false, "a.b": false, "a/": false, "a:": false, "a`": false, "a{": false, "`": false, "{": false, "@": false, "[": false,
	} {
		if got := Name(s); got != want {
			t.Errorf("%q: %t", s, got)
		}
	}
}

// Each byte is asked for at each place of names of each length, and beyond.
func TestNameAndKeyOfEachByte(t *testing.T) {
	for b := range 256 {
		for many := range 27 {
			for _, s := range marked(strings.Repeat("k", many), byte(b)) {
				rightLabels(t, s)
			}
		}
	}
}

// A name's first byte is asked for by itself: what may stand behind it may not stand there.
func TestNameOfEachTwoBytes(t *testing.T) {
	for first := range 256 {
		for second := range 256 {
			rightLabels(t, string([]byte{byte(first), byte(second)}))
		}
	}
}

func TestKeyOfKnownTexts(t *testing.T) {
	for s, want := range map[string]bool{
		"": false, "!": true, "~": true, "k": true, "K": true, "0": true, "-": true, "\"": true, "\\": true, "}": true, "a/b": true, "KEY-9_z.!~": true,
		" ": false, "\x1f": false, "\x7f": false, "\x80": false, "\xff": false, "\x00": false, "\n": false, "\t": false, "é": false, "\xa1": false, "\xfe": false,
		"a b": false, " a": false, "a ": false, "a\x7f": false, "\x7fa": false, "a\x00": false, "aé": false,
		strings.Repeat("k", 23): true, strings.Repeat("k", 24): true, strings.Repeat("k", 25): false, strings.Repeat("!", 24): true, strings.Repeat("~", 24): true, strings.Repeat("~", 25): false,
		strings.Repeat("k", 23) + " ": false, strings.Repeat("k", 23) + "\x7f": false, strings.Repeat("é", 12): false,
	} {
		if got := Key(s); got != want {
			t.Errorf("%q: %t", s, got)
		}
	}
}

func TestValOfEachLengthAndByte(t *testing.T) {
	for b := range 256 {
		one := string([]byte{byte(b)})
		for many := range 70 {
			if got, want := Val(strings.Repeat(one, many)), many <= 32; got != want {
				t.Errorf("%d bytes %d: %t", many, b, got)
			}
		}
	}
	for s, want := range map[string]bool{
		"": true, "a b\n\x00\xff": true, strings.Repeat("é", 16): true, strings.Repeat("é", 16) + "a": false, strings.Repeat("é", 17): false,
		strings.Repeat("v", 31): true, strings.Repeat("v", 32): true, strings.Repeat("v", 33): false, strings.Repeat("v", 256): false, strings.Repeat("v", 65536): false, strings.Repeat("v", 1<<20): false,
	} {
		if got := Val(s); got != want {
			t.Errorf("%d bytes: %t", len(s), got)
		}
	}
}

func TestNameKeyAndValOfTextsOfAllKinds(t *testing.T) {
	for _, s := range texts() {
		rightLabels(t, s)
		rightLabels(t, "a"+s)
	}
	for _, many := range []int{256 + 1, 256 + 16, 256 + 24, 65536, 65536 + 8, 1 << 20} { // lengths that would do, if they lost their highest bits
		rightLabels(t, strings.Repeat("a", many))
	}
}

// P10.2

// wantId answers Id by the library's sums.
func wantId(key string) uint64 {
	sum := sha256.Sum256(append([]byte("key "), key...))
	return binary.BigEndian.Uint64(sum[:8])
}

func TestIdOfKnownKeys(t *testing.T) {
	for key, want := range map[string]uint64{
		"":                         0xf7ba81db8e661ff7,
		"a":                        0x4c42d56de3c2441a,
		"key":                      0xb6247fc5b8dd058e,
		"!":                        0xebcf5c6d360a2638,
		"abcdefghijklmnopqrstuvwx": 0x66618ae7dc649b68,
	} {
		if got := Id(key); got != want {
			t.Errorf("%q: %x, wanted %x", key, got, want)
		}
	}
}

// Whatever stands as a key has an Id, a key or not.
func TestIdOfTextsOfAllKinds(t *testing.T) {
	for _, s := range texts() {
		if got, want := Id(s), wantId(s); got != want {
			t.Errorf("%q: %x, wanted %x", s, got, want)
		}
	}
	for many := range 140 { // the sum's blocks end within these
		s := string(made(many, 1))
		if got, want := Id(s), wantId(s); got != want {
			t.Errorf("%q: %x, wanted %x", s, got, want)
		}
	}
}

// P10.3

// numbers answers numbers at the edges of their range, with one bit, with all but one, and in between.
func numbers() []uint64 {
	list := []uint64{0, 1, 9, 10, 15, 16, 255, 256, 1<<32 - 1, 1 << 32, 0x0123456789abcdef, 0xfedcba9876543210, 1<<63 - 1, 1 << 63, 1<<63 + 1, math.MaxUint64 - 1, math.MaxUint64}
	for bit := range 64 {
		list = append(list, 1<<bit, 1<<bit-1, ^uint64(1<<bit))
	}
	b := made(8*200, 2)
	for ; len(b) > 0; b = b[8:] {
		list = append(list, binary.BigEndian.Uint64(b))
	}
	return list
}

func TestHexOfKnownNumbers(t *testing.T) {
	for n, want := range map[uint64]string{
		255: "00000000000000ff", 0: "0000000000000000", 1: "0000000000000001", 10: "000000000000000a", 16: "0000000000000010",
		1 << 63: "8000000000000000", 1<<63 - 1: "7fffffffffffffff", math.MaxUint64: "ffffffffffffffff", math.MaxUint64 - 1: "fffffffffffffffe",
		0xfedcba9876543210: "fedcba9876543210", 0x0123456789abcdef: "0123456789abcdef", 1 << 32: "0000000100000000",
	} {
		if got := Hex(n); got != want {
			t.Errorf("%d: %q, wanted %q", n, got, want)
		}
		if got, ok := ReadHex(want); got != n || !ok {
			t.Errorf("%q: %d, %t", want, got, ok)
		}
	}
}

func TestHexOfEachNumber(t *testing.T) {
	for _, n := range numbers() {
		if got, want := Hex(n), fmt.Sprintf("%016x", n); got != want {
			t.Errorf("%d: %q, wanted %q", n, got, want)
		}
	}
}

// rightReadHex asks that ReadHex answers what a text is, by whole numbers.
func rightReadHex(t *testing.T, s string) {
	t.Helper()
	want := new(big.Int)
	is := sixteen.MatchString(s)
	if is {
		want.SetString(s, 16)
	}
	if got, ok := ReadHex(s); ok != is || got != want.Uint64() {
		t.Errorf("ReadHex of %q: %x, %t; wanted %x, %t", s, got, ok, want, is)
	}
}

func TestReadHexOfOtherTexts(t *testing.T) {
	for _, s := range []string{
		"", "-", "0", "f", "ff", "123456789abcdef", "0123456789abcde", "00123456789abcdef", "0123456789abcdef0", "00000000000000ff\x00", "00000000000000ff\n", "\n00000000000000f",
		"FEDCBA9876543210", "fedcba987654321F", "Fedcba9876543210", "0123456789abcdeF", "00000000000000FF", "A000000000000000",
		"+000000000000001", "-000000000000001", "+0000000000000001", "-0000000000000001", "0000000000000-01", "- 00000000000001",
		"fedcba987654321g", "gedcba9876543210", "0x00000000000001", "0x0000000000000001", "0000000000000_01", " 000000000000001", "000000000000001 ", "00000000000000 1",
		"000000000000000\x00", "000000000000000\xff", "0000000000000000 ", "00000000000000é", "é00000000000000", strings.Repeat("é", 8), strings.Repeat("é", 16), strings.Repeat("0", 32), strings.Repeat("f", 8192),
	} {
		if got, ok := ReadHex(s); got != 0 || ok {
			t.Errorf("%q: %x, %t", s, got, ok)
		}
	}
}

func TestReadHexOfEachByteAtEachPlace(t *testing.T) {
	for b := range 256 {
		for _, whole := range []string{"0000000000000000", "fedcba9876543210", "ffffffffffffffff", "fffffffffffffff", "fffffffffffffffff"} {
			for _, s := range marked(whole, byte(b)) {
				rightReadHex(t, s)
			}
		}
	}
	for many := range 70 {
		rightReadHex(t, strings.Repeat("0", many))
		rightReadHex(t, strings.Repeat("f", many))
	}
}

func TestBytesOfKnownBytes(t *testing.T) {
	for s, want := range map[string]string{
		"": "-", "\x01\xff": "01ff", "\x00": "00", "\x00\x00": "0000", "\xff": "ff", "\x0f": "0f", "\xf0": "f0", "\x9a": "9a", "\xa9": "a9",
		"-": "2d", "a": "61", "ab": "6162", "\x01\x23\x45\x67\x89\xab\xcd\xef": "0123456789abcdef", "\xff\xff\xff": "ffffff", "\x00\x01": "0001", "\x01\x00": "0100",
	} {
		if got := Bytes([]byte(s)); got != want {
			t.Errorf("%q: %q, wanted %q", s, got, want)
		}
		if got, ok := ReadBytes(want); string(got) != s || !ok {
			t.Errorf("%q: %q, %t", want, got, ok)
		}
	}
	for _, b := range nothings() {
		if got := Bytes(b); got != "-" {
			t.Errorf("%d bytes of %d: %q", len(b), cap(b), got)
		}
	}
}

func TestBytesOfEachByte(t *testing.T) {
	for b := range 256 {
		for _, whole := range []string{"\x00", "\x00\x00\x00", "\xff\xff\xff\xff", "\x01\x23\x45\x67\x89"} {
			for _, s := range marked(whole, byte(b)) {
				if got, want := Bytes([]byte(s)), hex.EncodeToString([]byte(s)); got != want {
					t.Errorf("%q: %q, wanted %q", s, got, want)
				}
			}
		}
	}
}

// Bytes has no limit: what is more than ReadBytes takes is written all the same.
func TestBytesOfManyBytes(t *testing.T) {
	for _, many := range []int{1, 2, 31, 32, 33, 255, 256, 2047, 2048, 4095, 4096, 4097, 8192, 100000} {
		b := made(many, 3)
		if got, want := Bytes(b), hex.EncodeToString(b); got != want {
			t.Errorf("%d bytes: %d digits", many, len(got))
		}
	}
}

// rightReadBytes asks that ReadBytes answers what a text is, by the library's reading.
func rightReadBytes(t *testing.T, s string) {
	t.Helper()
	is := s == "-" || pairs.MatchString(s) && len(s) <= 8192
	var want []byte
	if is && s != "-" {
		want, _ = hex.DecodeString(s)
	}
	if got, ok := ReadBytes(s); ok != is || !bytes.Equal(got, want) {
		t.Errorf("ReadBytes of %.40q, %d digits: %d bytes, %t; wanted %d, %t", s, len(s), len(got), ok, len(want), is)
	}
}

func TestReadBytesOfNone(t *testing.T) {
	if got, ok := ReadBytes("-"); len(got) != 0 || !ok {
		t.Errorf("%q, %t", got, ok)
	}
}

func TestReadBytesOfOtherTexts(t *testing.T) {
	for _, s := range []string{
		"", "0", "f", "000", "fff", "0000000", "--", "---", " -", "- ", "-\n", "-00", "00-", "0-", "-0", "+0", "-1", "+00", "0x", "0x00", "0 ", " 0", "00 ", " 00", "00 00", "00\n", "0\x00", "\x0000",
		"0A", "A0", "FF", "fF", "Ff", "00FF", "0g", "g0", "gg", "000g", "g000", "0_", "0/", "0:", "0`", "0@", "é", "0é", "é0", "éé", "00é", "ff\xff", "ff\xff\xff", "zz",
		strings.Repeat("0", 8191), strings.Repeat("0", 8193), strings.Repeat("0", 8194), strings.Repeat("ff", 4097), strings.Repeat("ff", 4098), strings.Repeat("ff", 1<<16), strings.Repeat("00", 4095) + "0", strings.Repeat("00", 4095) + "0g", "g0" + strings.Repeat("00", 4095),
	} {
		if got, ok := ReadBytes(s); len(got) != 0 || got != nil || ok {
			t.Errorf("%.40q: %d bytes, %t", s, len(got), ok)
		}
	}
}

func TestReadBytesOfEachTwoDigits(t *testing.T) {
	for first := range 256 {
		for second := range 256 {
			two := string([]byte{byte(first), byte(second)})
			for _, s := range []string{two, two + "00", "00" + two, "ff" + two + "ff"} {
				rightReadBytes(t, s)
			}
		}
	}
}

func TestReadBytesOfEachLength(t *testing.T) {
	for _, many := range []int{0, 1, 2, 3, 4, 5, 63, 64, 65, 4095, 4096, 4097, 8189, 8190, 8191, 8192, 8193, 8194, 8195, 8196, 16384, 65536} {
		digits := hex.EncodeToString(made(many, 4))
		rightReadBytes(t, digits[:many])
		rightReadBytes(t, digits)
	}
}

func TestReadBytesOfManyBytes(t *testing.T) {
	for many, is := range map[int]bool{4095: true, 4096: true, 4097: false, 4098: false, 8192: false} {
		b := made(many, 5)
		got, ok := ReadBytes(hex.EncodeToString(b))
		if ok != is || is && !bytes.Equal(got, b) || !is && len(got) != 0 {
			t.Errorf("%d: %d bytes, %t", many, len(got), ok)
		}
	}
}

func TestReadHexAndReadBytesOfTextsOfAllKinds(t *testing.T) {
	for _, s := range texts() {
		rightReadHex(t, s)
		rightReadBytes(t, s)
	}
}

// P10.4

// counts answers numbers at the edges of their ranges, beside powers of two and of ten, and in between.
func counts() []int {
	list := []int{0, math.MinInt, math.MinInt + 1, math.MaxInt, math.MaxInt - 1}
	for _, edge := range []int{1, 7, 9, 10, 42, 99, 100, 101, 999, 1000, 1 << 16, 1<<30 - 1, 1 << 30, 1<<30 + 1, 1<<31 - 1, 1 << 31, 1 << 32, 1<<32 + 7} {
		list = append(list, edge, -edge)
	}
	for bit := range 63 {
		list = append(list, 1<<bit, 1<<bit-1, 1<<bit+1, -1<<bit, -1<<bit+1, -1<<bit-1)
	}
	for power := 1; power <= math.MaxInt/10; power *= 10 {
		list = append(list, power, power-1, power+1, -power, -power-1)
	}
	for _, n := range numbers() {
		list = append(list, int(n), int(n>>33), -int(n>>33))
	}
	return list
}

func TestNumberOfKnownNumbers(t *testing.T) {
	for n, want := range map[int]string{
		0: "0", 1: "1", -1: "-1", 9: "9", 10: "10", -10: "-10", 42: "42", 100: "100", -100: "-100", 1073741824: "1073741824", -1073741824: "-1073741824", 1073741825: "1073741825", -1073741825: "-1073741825",
		math.MinInt: "-9223372036854775808", math.MinInt + 1: "-9223372036854775807", math.MaxInt: "9223372036854775807", math.MaxInt - 1: "9223372036854775806",
	} {
		if got := Number(n); got != want {
			t.Errorf("%q, wanted %q", got, want)
		}
	}
}

func TestNumberOfEachNumber(t *testing.T) {
	for _, n := range counts() {
		if got, want := Number(n), big.NewInt(int64(n)).String(); got != want {
			t.Errorf("%q, wanted %q", got, want)
		}
	}
	for n := -1100; n <= 1100; n++ {
		if got, want := Number(n), big.NewInt(int64(n)).String(); got != want {
			t.Errorf("%q, wanted %q", got, want)
		}
	}
}

func TestReadNumberOfKnownTexts(t *testing.T) {
	for s, want := range map[string]int{
		"0": 0, "1": 1, "-1": -1, "9": 9, "10": 10, "-10": -10, "42": 42, "100": 100, "1000000000": 1000000000, "-1000000000": -1000000000,
		"1073741823": 1<<30 - 1, "1073741824": 1 << 30, "-1073741823": -1<<30 + 1, "-1073741824": -1 << 30,
	} {
		if got, ok := ReadNumber(s); got != want || !ok {
			t.Errorf("%q: %d, %t", s, got, ok)
		}
	}
}

func TestReadNumberOfOtherTexts(t *testing.T) {
	for _, s := range []string{
		"", "-", "+", "--", "-0", "+0", "00", "000", "-00", "01", "-01", "007", "0000000001", "-0000000001", "01073741824", "+1", "+42", "--1", "-+1", "+-1", "1-", "1+", "-1-", "1-1",
		" ", " 1", "1 ", " 1 ", "1 2", "- 1", "-1 ", "\t1", "1\n", "1\r", "1\x00", "\x001", "1\xa0", "0 ", " 0",
		"1073741825", "-1073741825", "1073741834", "2000000000", "-2000000000", "2147483647", "-2147483648", "4294967295", "4294967296", "4294967297", "10737418240", "-10737418240", "9999999999",
		"9223372036854775807", "-9223372036854775808", "9223372036854775808", "-9223372036854775809", "18446744073709551615", "18446744073709551616", "18446744073709551617", "18446744073709551617000", "99999999999999999999", "-99999999999999999999",
		"340282366920938463463374607431768211457", strings.Repeat("9", 100), strings.Repeat("0", 100), strings.Repeat("0", 100) + "1", "1" + strings.Repeat("0", 100), "-" + strings.Repeat("9", 100), strings.Repeat("1", 1<<20), strings.Repeat("0", 1<<20), "-" + strings.Repeat("0", 1<<20),
		"a", "f", "ff", "0x1", "0X1", "0b1", "0o1", "1e3", "1.0", "1.", ".1", "1_000", "1,000", "1'000", "１", "٣", "½", "−1", "1é", "\xff", "1\xff", "Inf", "NaN", "one",
	} {
		if got, ok := ReadNumber(s); got != 0 || ok {
			t.Errorf("%.40q: %d, %t", s, got, ok)
		}
	}
}

// rightReadNumber asks that ReadNumber answers what a text is, by whole numbers that leave no range.
func rightReadNumber(t *testing.T, s string) {
	t.Helper()
	whole := new(big.Int)
	is := decimal.MatchString(s)
	if is {
		whole.SetString(s, 10)
	}
	want := 0
	if is = is && whole.CmpAbs(big.NewInt(1<<30)) <= 0; is {
		want = int(whole.Int64())
	}
	if got, ok := ReadNumber(s); ok != is || got != want {
		t.Errorf("ReadNumber of %.40q: %d, %t; wanted %d, %t", s, got, ok, want, is)
	}
}

func TestReadNumberOfTextsOfAllKinds(t *testing.T) {
	for _, s := range texts() {
		rightReadNumber(t, s)
	}
	for _, n := range counts() {
		s := big.NewInt(int64(n)).String()
		for _, other := range []string{s, "-" + s, "+" + s, "0" + s, s + "0", s + "7", " " + s, s + " ", strings.Replace(s, "-", "-0", 1), strings.TrimPrefix(s, "-")} {
			rightReadNumber(t, other)
		}
	}
}

func TestReadNumberOfEachByteAtEachPlace(t *testing.T) {
	for b := range 256 {
		for _, whole := range []string{"1", "-1", "10", "123", "-1073741824", "1073741824"} {
			for _, s := range marked(whole, byte(b)) {
				rightReadNumber(t, s)
			}
		}
	}
}

// Each text of a few signs and digits is a number or none.
func TestReadNumberOfEachFewSigns(t *testing.T) {
	const signs = "-+019 "
	few := []string{""}
	for range 5 {
		var longer []string
		for _, s := range few {
			for _, sign := range signs {
				longer = append(longer, s+string(sign))
			}
		}
		few = longer
		for _, s := range few {
			rightReadNumber(t, s)
		}
	}
}

// P10.5

// readBack asks that what is written of a number is read back, and that a number that is too far from 0 is not.
func readBack(t *testing.T, n int) {
	t.Helper()
	want, is := n, true
	if n < -1<<30 || n > 1<<30 {
		want, is = 0, false
	}
	if got, ok := ReadNumber(Number(n)); got != want || ok != is {
		t.Errorf("%d as a Number: %d, %t", n, got, ok)
	}
}

func TestWhatIsWrittenIsReadBack(t *testing.T) {
	for _, n := range numbers() {
		if got, ok := ReadHex(Hex(n)); got != n || !ok {
			t.Errorf("%d as Hex: %d, %t", n, got, ok)
		}
	}
	for _, n := range counts() {
		readBack(t, n)
	}
	for n := -70000; n <= 70000; n++ {
		readBack(t, n)
	}
	for many := range 300 {
		b := made(many, byte(many))
		if got, ok := ReadBytes(Bytes(b)); !bytes.Equal(got, b) || !ok {
			t.Errorf("%d bytes: %d, %t", many, len(got), ok)
		}
	}
	for _, b := range nothings() {
		if got, ok := ReadBytes(Bytes(b)); len(got) != 0 || !ok {
			t.Errorf("no bytes: %d, %t", len(got), ok)
		}
	}
	for _, many := range []int{4095, 4096} {
		b := made(many, 6)
		if got, ok := ReadBytes(Bytes(b)); !bytes.Equal(got, b) || !ok {
			t.Errorf("%d bytes: %d, %t", many, len(got), ok)
		}
	}
}

// writtenBack asks that what is read is what is written of it: no two texts are one number, or the same bytes.
func writtenBack(t *testing.T, s string) {
	t.Helper()
	if n, ok := ReadHex(s); ok && Hex(n) != s {
		t.Errorf("%q is read as Hex, and written as %q", s, Hex(n))
	}
	if b, ok := ReadBytes(s); ok && Bytes(b) != s {
		t.Errorf("%q is read as Bytes, and written as %q", s, Bytes(b))
	}
	if n, ok := ReadNumber(s); ok && Number(n) != s {
		t.Errorf("%q is read as a Number, and written as %q", s, Number(n))
	}
}

func TestWhatIsReadIsWrittenBack(t *testing.T) {
	for _, s := range texts() {
		writtenBack(t, s)
	}
}

func FuzzWhatFollows(f *testing.F) {
	for _, s := range []string{"", "-", "0", "a", "node-1", "a b", "0123456789abcdef", "01ff", "-1073741824", "1073741825", "\x00\xff"} {
		f.Add(s, []byte(s), uint64(len(s)), -len(s))
	}
	f.Add("+1", []byte{1, 255}, uint64(math.MaxUint64), math.MinInt)
	f.Add("00", make([]byte, 4096), uint64(1<<63), math.MaxInt)
	f.Add("-0", make([]byte, 4097), uint64(255), 1<<30)
	f.Fuzz(func(t *testing.T, s string, b []byte, n uint64, k int) {
		rightLabels(t, s)
		rightReadHex(t, s)
		rightReadBytes(t, s)
		rightReadNumber(t, s)
		writtenBack(t, s)
		if got, want := Id(s), wantId(s); got != want {
			t.Errorf("Id of %q: %x, wanted %x", s, got, want)
		}
		if got, ok := ReadHex(Hex(n)); got != n || !ok {
			t.Errorf("%d as Hex: %d, %t", n, got, ok)
		}
		readBack(t, k)
		readBack(t, k%(1<<30+1))
		got, ok := ReadBytes(Bytes(b))
		if is := len(b) <= 4096; ok != is || is && !bytes.Equal(got, b) || !is && len(got) != 0 {
			t.Errorf("%d bytes: %d, %t", len(b), len(got), ok)
		}
	})
}

// Rules 4, 5 and 8: what is handed in stays as it was, what is handed out is new memory, what lies behind a length does not count, and nothing is kept.

// blocks answers lists of bytes of several lengths, none too.
func blocks() [][]byte {
	list := nothings()
	for _, many := range []int{1, 2, 3, 8, 31, 32, 33, 64, 1000, 4096, 4097} {
		list = append(list, made(many, byte(many)))
	}
	return list
}

// fill writes over all of this memory, its spare room too.
func fill(b []byte) {
	b = b[:cap(b)]
	for i := range b {
		b[i] ^= 0xa5
	}
}

func TestWhatIsHandedInStaysAsItWas(t *testing.T) {
	for _, b := range blocks() {
		all := append(slices.Clone(b), made(50, 7)...)
		kept := slices.Clone(all)
		in := all[:len(b)]
		written := Bytes(in)
		if !bytes.Equal(all, kept) {
			t.Fatalf("%d bytes are changed", len(b))
		}
		if want := hex.EncodeToString(b); len(b) > 0 && written != want {
			t.Errorf("%d bytes: what lies behind counts", len(b))
		}
		before := strings.Clone(written)
		fill(all)
		if written != before {
			t.Errorf("%d bytes: what is written changes with them", len(b))
		}
	}
}

func TestWhatIsHandedOutIsNewMemory(t *testing.T) {
	for _, b := range blocks() {
		s := Bytes(b)
		kept := strings.Clone(s)
		first, ok := ReadBytes(s)
		second, _ := ReadBytes(s)
		if !ok {
			continue // of what is refused nothing is handed out
		}
		fill(first)
		_ = append(first, 1, 2, 3)
		if !bytes.Equal(second, b) {
			t.Errorf("%d bytes: they change with those that were handed out ahead of them", len(b))
		}
		if s != kept {
			t.Errorf("%d bytes: the text changes with them", len(b))
		}
		third, _ := ReadBytes(s)
		if !bytes.Equal(third, b) {
			t.Errorf("%d bytes: they are kept", len(b))
		}
		for _, x := range third[len(third):cap(third)] {
			if x != 0 {
				t.Errorf("%d bytes: their spare room holds %d", len(b), x)
			}
		}
	}
}

// A call leaves nothing behind: whatever comes ahead of it, it answers what it would have.
func TestNothingIsKept(t *testing.T) {
	for _, s := range texts() {
		Name(s)
		Key(s)
		Val(s)
		Id(s)
		ReadHex(s)
		ReadBytes(s)
		ReadNumber(s)
		Bytes([]byte(s))
		Number(len(s))
		Hex(uint64(len(s)))
		if n, ok := ReadNumber("42"); n != 42 || !ok {
			t.Fatalf("behind %q: ReadNumber is %d, %t", s, n, ok)
		}
		if n, ok := ReadHex("00000000000000ff"); n != 255 || !ok {
			t.Fatalf("behind %q: ReadHex is %d, %t", s, n, ok)
		}
		if b, ok := ReadBytes("01ff"); string(b) != "\x01\xff" || !ok {
			t.Fatalf("behind %q: ReadBytes is %q, %t", s, b, ok)
		}
		if !Name("z9-") || Name("-z9") || !Key("!~") || Key(" ") || !Val("") || Hex(255) != "00000000000000ff" || Bytes([]byte{1, 255}) != "01ff" || Number(-7) != "-7" || Id("a") != wantId("a") {
			t.Fatalf("behind %q: other answers", s)
		}
	}
}
