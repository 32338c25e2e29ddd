package hello

import (
	"crypto/hmac"
	"crypto/sha256"
	"encoding/binary"
	"fmt"
	"math"
	"regexp"
	"strings"

	"carcanet/api"
)

// made answers a text of so many bytes without a plain order, the same ones for the same seed.
func made(length int, seed byte) string {
	b := make([]byte, length)
	state := uint32(seed)*2654435761 + 1
	for i := range b {
		state = state*1664525 + 1013904223
		b[i] = byte(state>>24) ^ seed
	}
	return string(b)
}

// turned answers the text that has this byte at this place.
func turned(s string, at int, b byte) string { return s[:at] + string([]byte{b}) + s[at+1:] }

// byteText answers the text of this one byte.
func byteText(b int) string { return string([]byte{byte(b)}) }

// show tells a hello, a welcome, an entry or an identifier shortly, whatever its texts.
func show(v any) string {
	text := fmt.Sprintf("%+q", fmt.Sprint(v))
	return text[:min(len(text), 400)]
}

// nothings answers the ways in which no bytes may come in, some of them with spare room in which a packet stands.
func nothings() [][]byte {
	list := [][]byte{nil, {}, make([]byte, 0, 100)}
	for _, p := range packets() {
		for _, text := range p.known {
			list = append(list, []byte(text)[:0])
		}
	}
	return append(list, []byte{3, 1, 2}[:0])
}

// Entries

// plainEntry answers an entry that may be.
func plainEntry() api.Entry {
	return api.Entry{Name: "node-1", Id: 0x0102030405060708, From: 5, Until: 1000, Index: 3, Tag: made(32, 9)}
}

// butEntry answers that entry, changed.
func butEntry(change func(e *api.Entry)) api.Entry {
	e := plainEntry()
	change(&e)
	return e
}

// otherEntry answers another entry that may be.
func otherEntry() api.Entry {
	return api.Entry{Name: "b", Id: 2, Until: 9, Tag: strings.Repeat("y", 32)}
}

// longEntry answers the entry of the greatest numbers and the longest texts that may be.
func longEntry() api.Entry {
	return api.Entry{Name: "abcdefghijklmnop", Id: math.MaxUint64, From: 1 << 30, Until: 1 << 30, Index: 64, Tag: strings.Repeat("\xff", 32)}
}

// leastEntry answers the entry of zeros that may be.
func leastEntry() api.Entry { return api.Entry{Name: "a", Tag: strings.Repeat("\x00", 32)} }

// hugeEntry answers an entry whose name and whose text are cut.
func hugeEntry() api.Entry {
	return api.Entry{Name: strings.Repeat("n", 70000), Id: 1, From: 2, Until: 3, Index: 4, Tag: strings.Repeat("t", 10)}
}

// wrongEntry answers an entry of which nothing may be.
func wrongEntry() api.Entry {
	return api.Entry{Name: "No name!", Id: 1 << 63, From: -1, Until: -2, Index: -3, Tag: "t"}
}

// oddEntries answers entries that may not be, each for one thing alone but for the first ones.
func oddEntries() []api.Entry {
	return []api.Entry{
		{}, wrongEntry(), hugeEntry(),
		butEntry(func(e *api.Entry) { e.Name = "" }),
		butEntry(func(e *api.Entry) { e.Name = "Node" }),
		butEntry(func(e *api.Entry) { e.Name = "1" }),
		butEntry(func(e *api.Entry) { e.Name = "a b" }),
		butEntry(func(e *api.Entry) { e.Name = "abcdefghijklmnopq" }),
		butEntry(func(e *api.Entry) { e.From = -1 }),
		butEntry(func(e *api.Entry) { e.From = 1001 }),
		butEntry(func(e *api.Entry) { e.Until = 4 }),
		butEntry(func(e *api.Entry) { e.Until = 1<<30 + 1 }),
		butEntry(func(e *api.Entry) { e.Until = 1<<32 + 1000 }),
		butEntry(func(e *api.Entry) { e.Index = -1 }),
		butEntry(func(e *api.Entry) { e.Index = 65 }),
		butEntry(func(e *api.Entry) { e.Index = 1<<16 + 3 }),
		butEntry(func(e *api.Entry) { e.Tag = "" }),
		butEntry(func(e *api.Entry) { e.Tag = e.Tag[:31] }),
		butEntry(func(e *api.Entry) { e.Tag += "t" }),
		butEntry(func(e *api.Entry) { e.Tag += e.Tag }),
	}
}

// fineEntries answers entries that may be.
func fineEntries() []api.Entry {
	return append(nearEntries(), plainEntry(), otherEntry(), longEntry(), leastEntry())
}

// nearEntries answers entries that may be, and differ from the plain one in one field each.
func nearEntries() []api.Entry {
	return []api.Entry{
		butEntry(func(e *api.Entry) { e.Name = "node-2" }),
		butEntry(func(e *api.Entry) { e.Name = "n" }),
		butEntry(func(e *api.Entry) { e.Name = "node-11" }),
		butEntry(func(e *api.Entry) { e.Id++ }),
		butEntry(func(e *api.Entry) { e.Id = 0 }),
		butEntry(func(e *api.Entry) { e.Id ^= 1 << 63 }),
		butEntry(func(e *api.Entry) { e.From = 4 }),
		butEntry(func(e *api.Entry) { e.From = 0 }),
		butEntry(func(e *api.Entry) { e.Until = 1001 }),
		butEntry(func(e *api.Entry) { e.Until = 1 << 30 }),
		butEntry(func(e *api.Entry) { e.Index = 2 }),
		butEntry(func(e *api.Entry) { e.Index = 64 }),
		butEntry(func(e *api.Entry) { e.Tag = turned(e.Tag, 0, e.Tag[0]^1) }),
		butEntry(func(e *api.Entry) { e.Tag = turned(e.Tag, 31, e.Tag[31]^128) }),
	}
}

var nameForm = regexp.MustCompile(`\A[a-z][a-z0-9-]{0,15}\z`)

// entryMayBe answers what chapter 11's Right has to, of its own.
func entryMayBe(e api.Entry) bool {
	const last = 1073741824
	return nameForm.MatchString(e.Name) && e.From >= 0 && e.From <= e.Until && e.Until <= last && e.Index >= 0 && e.Index <= 64 && len(e.Tag) == 32
}

// wantText answers a text with its length ahead, cut to what that can tell.
func wantText(s string) string {
	s = s[:min(len(s), 65535)]
	return string(binary.BigEndian.AppendUint16(nil, uint16(len(s)))) + s
}

func wantNum(n uint64) string { return string(binary.BigEndian.AppendUint64(nil, n)) }

// entryBytes answers what chapter 11's Bytes has to.
func entryBytes(e api.Entry) string {
	b := binary.BigEndian.AppendUint64([]byte(wantText(e.Name)), e.Id)
	b = binary.BigEndian.AppendUint32(b, uint32(e.From))
	b = binary.BigEndian.AppendUint32(b, uint32(e.Until))
	b = binary.BigEndian.AppendUint16(b, uint16(e.Index))
	return string(b) + e.Tag
}

// entryText answers an entry's text.
func entryText(e api.Entry) string { return wantText(entryBytes(e)) }

// Texts of entries, written by hand.
var (
	plainText = "\x00\x3a\x00\x06node-1\x01\x02\x03\x04\x05\x06\x07\x08\x00\x00\x00\x05\x00\x00\x03\xe8\x00\x03" + made(32, 9)
	otherText = "\x00\x35\x00\x01b\x00\x00\x00\x00\x00\x00\x00\x02\x00\x00\x00\x00\x00\x00\x00\x09\x00\x00" + strings.Repeat("y", 32)
	longText  = "\x00\x44\x00\x10abcdefghijklmnop" + strings.Repeat("\xff", 8) + "\x40\x00\x00\x00\x40\x00\x00\x00\x00\x40" + strings.Repeat("\xff", 32)
	leastText = "\x00\x35\x00\x01a" + strings.Repeat("\x00", 50)
)

// Tags

// wantTag answers chapter 4's Sum by the library's.
func wantTag(psk, of string) string {
	h := hmac.New(sha256.New, []byte(psk))
	h.Write([]byte(of))
	return string(h.Sum(nil))
}

func wantGreet(psk, to string, nonce uint64, own api.Entry) Hello {
	return Hello{To: to, Nonce: nonce, Entry: own, Tag: wantTag(psk, "carcanet hello"+wantText(to)+wantNum(nonce)+entryText(own))}
}

func wantAnswer(psk string, first, second uint64, asker, own api.Entry) Welcome {
	return Welcome{First: first, Second: second, Entry: own, Tag: wantTag(psk, "carcanet welcome"+wantNum(first)+wantNum(second)+entryText(asker)+entryText(own))}
}

// keys answers keys that have unlike blocks, of lengths at and beside a block's.
func keys() []string {
	return []string{"", "psk", "psl", "PSK", "\x01", "\x00\x01", made(31, 1), made(32, 2), made(33, 3), made(63, 4), made(64, 5), made(65, 6), made(100, 7), made(1000, 8), strings.Repeat("\xff", 64), strings.Repeat("k", 65)}
}

// numbers answers numbers at the edges of their range, and in between.
func numbers() []uint64 {
	return []uint64{0, 1, 2, 255, 256, 258, 1<<32 - 1, 1 << 32, 1<<63 - 1, 1 << 63, 1<<63 + 1, 0x0102030405060708, 0xfedcba9876543210, math.MaxUint64 - 1, math.MaxUint64}
}

// names answers texts that are names, and others.
func names() []string {
	list := []string{
		"", "a", "z", "ab", "a-", "a1", "z9-", "node-2", "a--", "abcdefghijklmno", "abcdefghijklmnop", "a---------------", "a999999999999999",
		"abcdefghijklmnopq", "0", "9", "-", "-a", "1a", "A", "Z", "aB", "a b", " a", "a ", "a\n", "a_b", "a.b", "a\x00", "\x00", "\x00a", "é", "aé", "\xff", "a\xff", "a`", "a{", "abcdefghijklmnoP", "abcdefghijklmno\x00",
	}
	for _, many := range []int{17, 18, 32, 255, 256, 257, 65535, 65536, 65537} {
		list = append(list, strings.Repeat("a", many), made(many, byte(many)))
	}
	return list
}

// tags answers tags of the right length, and others.
func tags() []string {
	var list []string
	for _, many := range []int{0, 1, 16, 31, 32, 33, 34, 64, 255, 256, 288, 65568} {
		list = append(list, strings.Repeat("\x00", many), strings.Repeat("\xff", many), made(many, byte(many)))
	}
	return list
}

// Hellos and welcomes

func plainHello() Hello {
	return Hello{To: "node-2", Nonce: 258, Entry: plainEntry(), Tag: made(32, 5)}
}

func greatHello() Hello {
	return Hello{To: "ponmlkjihgfedcba", Nonce: math.MaxUint64, Entry: longEntry(), Tag: strings.Repeat("\xff", 32)}
}

func leastHello() Hello {
	return Hello{To: "b", Nonce: 1, Entry: leastEntry(), Tag: strings.Repeat("\x00", 32)}
}

func plainWelcome() Welcome {
	return Welcome{First: 258, Second: 0x0a0b0c0d0e0f1011, Entry: plainEntry(), Tag: made(32, 6)}
}

func greatWelcome() Welcome {
	return Welcome{First: math.MaxUint64, Second: math.MaxUint64 - 1, Entry: longEntry(), Tag: strings.Repeat("\xff", 32)}
}

func leastWelcome() Welcome {
	return Welcome{First: 1, Second: 2, Entry: leastEntry(), Tag: strings.Repeat("\x00", 32)}
}

// helloMayBe answers whether PutHello has to write it.
func helloMayBe(h Hello) bool {
	return nameForm.MatchString(h.To) && h.Nonce > 0 && entryMayBe(h.Entry) && len(h.Tag) == 32
}

// welcomeMayBe answers whether PutWelcome has to write it.
func welcomeMayBe(w Welcome) bool {
	return w.First > 0 && w.Second > 0 && entryMayBe(w.Entry) && len(w.Tag) == 32
}

// helloBytes answers a hello's bytes, whether it may be or not.
func helloBytes(h Hello) string {
	return "\x01" + wantText(h.To) + wantNum(h.Nonce) + entryText(h.Entry) + h.Tag
}

// welcomeBytes answers a welcome's, likewise.
func welcomeBytes(w Welcome) string {
	return "\x02" + wantNum(w.First) + wantNum(w.Second) + entryText(w.Entry) + w.Tag
}

// hellos answers hellos with each field at its edges, and with any of their fields wrong at once.
func hellos() []Hello {
	list := []Hello{{}}
	for _, base := range []Hello{plainHello(), greatHello(), leastHello()} {
		list = append(list, base)
		for _, x := range names() {
			list = append(list, Hello{x, base.Nonce, base.Entry, base.Tag}, Hello{To: x})
		}
		for _, x := range numbers() {
			list = append(list, Hello{base.To, x, base.Entry, base.Tag}, Hello{Nonce: x})
		}
		for _, x := range append(fineEntries(), oddEntries()...) {
			list = append(list, Hello{base.To, base.Nonce, x, base.Tag}, Hello{Entry: x})
		}
		for _, x := range tags() {
			list = append(list, Hello{base.To, base.Nonce, base.Entry, x}, Hello{Tag: x})
		}
		for wrong := range 16 {
			for _, by := range []Hello{{}, {"B", 0, wrongEntry(), made(31, 1)}, {made(17, 2), 0, hugeEntry(), made(33, 2)}} {
				list = append(list, mixed(base, by, wrong))
			}
		}
	}
	return list
}

// mixed answers a hello that has of the other one the fields that these bits tell.
func mixed(h, other Hello, bits int) Hello {
	if bits&1 > 0 {
		h.To = other.To
	}
	if bits&2 > 0 {
		h.Nonce = other.Nonce
	}
	if bits&4 > 0 {
		h.Entry = other.Entry
	}
	if bits&8 > 0 {
		h.Tag = other.Tag
	}
	return h
}

// welcomes answers welcomes, likewise.
func welcomes() []Welcome {
	list := []Welcome{{}}
	for _, base := range []Welcome{plainWelcome(), greatWelcome(), leastWelcome()} {
		list = append(list, base)
		for _, x := range numbers() {
			list = append(list, Welcome{x, base.Second, base.Entry, base.Tag}, Welcome{base.First, x, base.Entry, base.Tag}, Welcome{x, x, base.Entry, base.Tag}, Welcome{First: x}, Welcome{Second: x})
		}
		for _, x := range append(fineEntries(), oddEntries()...) {
			list = append(list, Welcome{base.First, base.Second, x, base.Tag}, Welcome{Entry: x})
		}
		for _, x := range tags() {
			list = append(list, Welcome{base.First, base.Second, base.Entry, x}, Welcome{Tag: x})
		}
		for wrong := range 16 {
			for _, by := range []Welcome{{}, {0, 0, wrongEntry(), made(31, 1)}, {0, 0, hugeEntry(), made(33, 2)}} {
				list = append(list, blended(base, by, wrong))
			}
		}
	}
	return list
}

// blended answers a welcome that has of the other one the fields that these bits tell.
func blended(w, other Welcome, bits int) Welcome {
	if bits&1 > 0 {
		w.First = other.First
	}
	if bits&2 > 0 {
		w.Second = other.Second
	}
	if bits&4 > 0 {
		w.Entry = other.Entry
	}
	if bits&8 > 0 {
		w.Tag = other.Tag
	}
	return w
}

// Packets

// A packet is a kind that is put and taken: its bytes, plain, greatest and least, written by hand, how it is taken, how it has to be, and how it is put again.
type packet struct {
	kind  int
	none  any
	known []string
	what  []any
	take  func(b []byte) (any, api.Errno)
	want  func(b []byte) (any, api.Errno)
	put   func(v any) ([]byte, api.Errno)
}

func helloPacket() packet {
	return packet{
		kind: 1,
		none: Hello{},
		known: []string{
			"\x01\x00\x06node-2\x00\x00\x00\x00\x00\x00\x01\x02" + plainText + made(32, 5),
			"\x01\x00\x10ponmlkjihgfedcba\xff\xff\xff\xff\xff\xff\xff\xff" + longText + strings.Repeat("\xff", 32),
			"\x01\x00\x01b\x00\x00\x00\x00\x00\x00\x00\x01" + leastText + strings.Repeat("\x00", 32),
		},
		what: []any{plainHello(), greatHello(), leastHello()},
		take: func(b []byte) (any, api.Errno) { return TakeHello(b) },
		want: func(b []byte) (any, api.Errno) { return wantTakeHello(b) },
		put:  func(v any) ([]byte, api.Errno) { return PutHello(v.(Hello)) },
	}
}

func welcomePacket() packet {
	return packet{
		kind: 2,
		none: Welcome{},
		known: []string{
			"\x02\x00\x00\x00\x00\x00\x00\x01\x02\x0a\x0b\x0c\x0d\x0e\x0f\x10\x11" + plainText + made(32, 6),
			"\x02\xff\xff\xff\xff\xff\xff\xff\xff\xff\xff\xff\xff\xff\xff\xff\xfe" + longText + strings.Repeat("\xff", 32),
			"\x02\x00\x00\x00\x00\x00\x00\x00\x01\x00\x00\x00\x00\x00\x00\x00\x02" + leastText + strings.Repeat("\x00", 32),
		},
		what: []any{plainWelcome(), greatWelcome(), leastWelcome()},
		take: func(b []byte) (any, api.Errno) { return TakeWelcome(b) },
		want: func(b []byte) (any, api.Errno) { return wantTakeWelcome(b) },
		put:  func(v any) ([]byte, api.Errno) { return PutWelcome(v.(Welcome)) },
	}
}

func resetPacket() packet {
	return packet{
		kind:  4,
		none:  uint64(0),
		known: []string{"\x04\x00\x00\x00\x00\x00\x00\x00\x05", "\x04\xff\xff\xff\xff\xff\xff\xff\xff", "\x04\x00\x00\x00\x00\x00\x00\x00\x01"},
		what:  []any{uint64(5), uint64(math.MaxUint64), uint64(1)},
		take:  func(b []byte) (any, api.Errno) { return TakeReset(b) },
		want:  func(b []byte) (any, api.Errno) { return wantTakeReset(b) },
		put:   func(v any) ([]byte, api.Errno) { return PutReset(v.(uint64)), api.OK },
	}
}

func packets() []packet { return []packet{helloPacket(), welcomePacket(), resetPacket()} }

// A cutter takes bytes off, and keeps the error that it met first.
type cutter struct {
	rest string
	err  api.Errno
}

func (c *cutter) meet(e api.Errno) {
	if c.err == 0 {
		c.err = e
	}
}

func (c *cutter) next(n int) string {
	if len(c.rest) < n {
		c.meet(10)
	}
	if c.err != 0 {
		return strings.Repeat("\x00", n)
	}
	s := c.rest[:n]
	c.rest = c.rest[n:]
	return s
}

func (c *cutter) number() uint64 { return binary.BigEndian.Uint64([]byte(c.next(8))) }

func (c *cutter) text(most int) string {
	n := int(binary.BigEndian.Uint16([]byte(c.next(2))))
	if n > most {
		c.meet(3)
		return ""
	}
	return c.next(n)
}

// entry cuts an entry's text off, and answers the entry, if it is one: else one that may not be.
func (c *cutter) entry() api.Entry {
	b := c.text(128)
	if len(b) < 2 {
		return api.Entry{}
	}
	size := int(b[0])*256 + int(b[1])
	if len(b) != 2+size+8+4+4+2+32 {
		return api.Entry{}
	}
	rest := []byte(b[2+size:])
	return api.Entry{Name: b[2 : 2+size], Id: binary.BigEndian.Uint64(rest), From: int(binary.BigEndian.Uint32(rest[8:])), Until: int(binary.BigEndian.Uint32(rest[12:])), Index: int(binary.BigEndian.Uint16(rest[16:])), Tag: string(rest[18:])}
}

func (c *cutter) end(right bool) api.Errno {
	if len(c.rest) > 0 {
		c.meet(12)
	}
	if !right {
		c.meet(11)
	}
	return c.err
}

// wantTakeHello answers what TakeHello has to.
func wantTakeHello(b []byte) (Hello, api.Errno) {
	if len(b) == 0 || b[0] != 1 {
		return Hello{}, 13
	}
	c := &cutter{rest: string(b[1:])}
	h := Hello{To: c.text(16)}
	h.Nonce = c.number()
	h.Entry = c.entry()
	h.Tag = c.next(32)
	if e := c.end(helloMayBe(h)); e != 0 {
		return Hello{}, e
	}
	return h, 0
}

// wantTakeWelcome answers what TakeWelcome has to.
func wantTakeWelcome(b []byte) (Welcome, api.Errno) {
	if len(b) == 0 || b[0] != 2 {
		return Welcome{}, 13
	}
	c := &cutter{rest: string(b[1:])}
	w := Welcome{First: c.number()}
	w.Second = c.number()
	w.Entry = c.entry()
	w.Tag = c.next(32)
	if e := c.end(welcomeMayBe(w)); e != 0 {
		return Welcome{}, e
	}
	return w, 0
}

// wantTakeReset answers what TakeReset has to.
func wantTakeReset(b []byte) (uint64, api.Errno) {
	if len(b) == 0 || b[0] != 4 {
		return 0, 13
	}
	c := &cutter{rest: string(b[1:])}
	id := c.number()
	if e := c.end(id > 0); e != 0 {
		return 0, e
	}
	return id, 0
}
